/- Multisets: the numbers by descending value, by the program. -/
import Derived.Test.YtgkcpmhgmhioiaaSortS
import Derived.Test.YtgkcpmhgmhioiaaBagO
import Derived.Test.YtgkcpmhgmhioiaaGdKit
namespace Go.Proofs.Ytgkcpmhgmhioiaa
set_option maxRecDepth 100000
open Go.RowKit

theorem flat_cong {xs ys : List Int} : ∀ k, (∀ j : Nat, j < k → xs.count (j : Int) = ys.count (j : Int)) → flat xs k = flat ys k
  | 0, _ => rfl
  | k + 1, h => by rw [flat, flat, h k (by omega), flat_cong k (fun j hj => h j (by omega))]
theorem flat_desc : ∀ (k : Nat) (xs : List Int), xs.Pairwise (fun a b => b ≤ a) → (∀ x ∈ xs, 0 ≤ x ∧ x < k) → flat xs k = xs
  | 0, xs, _, h => by
    cases xs with
    | nil => rfl
    | cons x t => have := h x List.mem_cons_self; omega
  | k + 1, xs, hp, hb => by
    obtain ⟨t, h1, h2, h3⟩ := desc_split k xs hp (fun x hx => by have := hb x hx; omega)
    have hc : flat xs k = flat t k := flat_cong k (fun j hj => by
      have h9 := congrArg (List.count (j : Int)) h1
      rw [List.count_append, List.count_replicate, if_neg (by simp; omega), Nat.zero_add] at h9
      exact h9)
    rw [flat, hc, flat_desc k t h2 h3]
    exact h1.symm
theorem sortD_flat {xs : List Int} (h : upTo 9 xs = true) : sortD xs = flat xs 10 := by
  have hp : (sortD xs).Perm xs := List.mergeSort_perm xs _
  have hs : (sortD xs).Pairwise (fun a b => b ≤ a) := by
    have h1 := List.pairwise_mergeSort (le := fun x y : Int => decide (y ≤ x)) (fun a b c h1 h2 => by simp at *; omega) (fun a b => by simp; omega) xs
    exact h1.imp (fun h => by simpa using h)
  rw [← flat_cong (xs := sortD xs) 10 (fun j _ => hp.count_eq _)]
  exact (flat_desc 10 _ hs (fun x hx => by have := upTo_true.1 h x (hp.mem_iff.1 hx); omega)).symm
theorem nums_of : ∀ xs : List Int, (∀ x ∈ xs, 0 ≤ x ∧ x ≤ 9) → ∃ ns, nums ns = xs
  | [], _ => ⟨[], rfl⟩
  | x :: t, h => by
    obtain ⟨ns, hns⟩ := nums_of t (fun y hy => h y (List.mem_cons_of_mem _ hy))
    have hx := h x List.mem_cons_self
    exact ⟨⟨x, by omega⟩ :: ns, by simp [nums] at hns ⊢; exact hns⟩

theorem multisetOf_any (ao : Option Addr) (n c : Nat) (xs : List Int) (w : World) (h : Sl w ao n c xs) (hn : n ≤ 3000) (hu : upTo 9 xs = true) :
    Calls Try.prog 58 #[.slice ao n c] w (IntPost w (flat xs 10)) := by
  obtain ⟨ns, hns⟩ := nums_of xs (upTo_true.1 hu)
  have hsf := sortD_flat hu
  have hW : Below w.heap.size w (w.alloc (.cells #[.slice ao n c] 23)) := (Below.refl _ _).alloc (Nat.le_refl _) _
  have hslW := h.below hW
  rw [← hns] at hslW
  have k2 := Lib.hid (sortedFunc_any w.heap.size ao n c ns (w.alloc (.cells #[.slice ao n c] 23)) hn (by simp) (by rw [Joins.cell_alloc_mark_at _ _ _ _ _ _ rfl]; rfl) hslW)
  rw [hns, hsf] at k2
  have k1 := Lib.hid (values_any ao n c w)
  have hl : n = (flat xs 10).length := by rw [← hsf, sortD_len, h.1]
  have Hl := Lib.hid hl
  have HW := Lib.hid hW
  obtain ⟨W, hWe⟩ : ∃ W, W = w.alloc (.cells #[.slice ao n c] 23) := ⟨_, rfl⟩
  rw [← hWe] at k2 k1 HW
  have hws := HW.out.size
  clear h hu hns hsf hW hslW hl hWe
  go_enter Try.func58, Try.ntmps58
  go_wp2_with fail
  refine (k1.out).mono ?_
  rintro ee w1 ⟨rfl, rfl⟩
  go_wp2_with fail
  refine (k2.out).mono ?_
  rintro ee w2 ⟨v, rfl, ho, hb⟩
  obtain ⟨a, c', rfl, _⟩ := own_form ho
  have hfin : IntPost w (flat xs 10) (.returned (.slice a n c')) w2 := by
    have h9 := Hl.out
    refine ⟨a, c', by rw [← h9], ?_, HW.out.trans (hb.mono hws)⟩
    rw [← h9]
    exact Joins.ownsRow_le ho hws
  have Hfin := Lib.hid hfin
  clear ho hb hfin
  go_wp2_with fail
  go_ret
  exact Hfin.out

theorem impl_BagOf (ao : Option Addr) (n c : Nat) (xs : List Int) (w : World) (h : Sl w ao n c xs) :
    Calls Try.prog 24 #[.slice ao n c] w (IntPost w (bagOf xs)) := by
  have k1 := Lib.hid (isItems_any ao n c xs w h)
  rcases items_tf xs with h1 | h1
  · rw [h1] at k1
    have hit := itemsB_true.1 h1
    have k2 := Lib.hid (multisetOf_any ao n c xs w h (by have := h.1; omega) hit.2)
    rw [← bagOf_in h1] at k2
    obtain ⟨r, hr⟩ : ∃ r, r = bagOf xs := ⟨_, rfl⟩
    rw [← hr] at k2 ⊢
    clear h h1 hit hr
    go_enter Try.func24, Try.ntmps24
    go_wp2_with fail
    refine (k1.out).mono ?_
    rintro ee wx ⟨rfl, rfl⟩
    go_wp2_with fail
    refine (k2.out).mono ?_
    rintro ee w2 ⟨a, c', rfl, ho, hb⟩
    have hfin : IntPost w r (.returned (.slice a r.length c')) w2 := ⟨a, c', rfl, ho, hb⟩
    have Hfin := Lib.hid hfin
    clear ho hb hfin
    go_wp2_with fail
    go_ret
    exact Hfin.out
  · rw [h1] at k1
    rw [bagOf_out h1]
    clear h h1
    go_enter Try.func24, Try.ntmps24
    go_wp2_with fail
    refine (k1.out).mono ?_
    rintro ee wx ⟨rfl, rfl⟩
    go_wp2_with fail
    go_ret
    exact ⟨none, 0, rfl, ⟨rfl, .inl ⟨rfl, rfl⟩⟩, Below.refl _ _⟩

end Go.Proofs.Ytgkcpmhgmhioiaa

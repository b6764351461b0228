/- slices.SortedFunc over slices.Values under 'descending'; multisetOf. -/
import Derived.Test.YtgkcpmhgmhioiaaSortD
import Derived.Test.YtgkcpmhgmhioiaaSeqC
namespace Go.Proofs.Ytgkcpmhgmhioiaa
set_option maxRecDepth 100000
open Go.Shelf Go.RowKit Go.Lib Go.Sort

theorem own_setCells {B e n c g : Nat} : ∀ (vs : List Value) (o : Nat) (w : World) (xs : List Value), w.ownsRow B e 1 (.slice (some ⟨g, 0, none⟩) n c) n xs → o + vs.length = n →
    (w.setCells g o vs).ownsRow B e 1 (.slice (some ⟨g, 0, none⟩) n c) n (xs.take o ++ vs) ∧ w.grownBy (w.setCells g o vs) (some g)
  | [], o, w, xs, h, ho => by
    have hl := h.1
    refine ⟨?_, World.grownBy.refl w _⟩
    rw [List.append_nil, List.take_of_length_le (by simp at ho; omega)]
    exact h
  | v :: vs, o, w, xs, h, ho => by
    have hl := h.1
    simp only [List.length_cons] at ho
    have h1 := h.stored o v
    have h2 := own_setCells vs (o + 1) (w.setCell ⟨g, o, none⟩ v) (xs.set o v) h1.1 (by omega)
    have he : (xs.set o v).take (o + 1) ++ vs = xs.take o ++ v :: vs := by
      rw [List.take_add_one, List.take_set_of_le (Nat.le_refl _), List.getElem?_set_self (by omega)]
      simp
    rw [he] at h2
    exact ⟨h2.1, h1.2.trans h2.2⟩
theorem grown_grow (w : World) (os : Array Obj) (row : Option Nat) : w.grownBy (grow w os) row :=
  ⟨rfl, rfl, rfl, by simp [grow], fun b hb _ => by simp [grow, Array.getElem?_append_left hb]⟩
theorem grown_drewN' (w : World) (n : Nat) (row : Option Nat) : w.grownBy (w.drewN n) row := ⟨rfl, rfl, rfl, Nat.le_refl _, fun _ _ _ => rfl⟩

/-- The numbers by descending value. -/
def sortD (xs : List Int) : List Int := xs.mergeSort fun x y => decide (y ≤ x)
theorem sortD_len (xs : List Int) : (sortD xs).length = xs.length := by simp [sortD]

set_option maxHeartbeats 2000000 in
theorem sortedFunc_any (bs : Nat) (ao : Option Addr) (len cap : Nat) (ns : List Num) (w : World) (hM : len ≤ 3000) (hbs : bs < w.heap.size) (hc1 : w.cell? ⟨bs, 0, none⟩ = some (.slice ao len cap)) (hsl : Sl w ao len cap (nums ns)) :
    Calls Try.prog 78 #[.func (.func 91) #[] #[.pointer (some ⟨bs, 0, none⟩)], .func (.func 80) #[] #[]] w fun e w' =>
      ∃ v, e = .returned v ∧ w'.ownsRow w.heap.size 3 1 v len (ints (sortD (nums ns))) ∧ Below w.heap.size w w' := by
  have kc := Lib.hid (collect_any bs ao len cap ns w hM hbs hc1 hsl)
  have hln : (nums ns).length = len := hsl.1
  obtain ⟨xs, hxs⟩ : ∃ xs, xs = nums ns := ⟨_, rfl⟩
  rw [← hxs] at kc hln ⊢
  have Hln := Lib.hid hln
  clear hc1 hsl hln hxs
  go_enter Try.func78, Try.ntmps78
  go_wp2_with fail
  refine (kc.out).mono ?_
  rintro ee w1 ⟨v, rfl, ho, hb⟩
  have Hb := Lib.hid hb
  rcases ho.2 with ⟨hv, hx⟩ | ⟨g, c, cur, hv, hlo, hrest⟩
  · subst hv
    obtain rfl : len = 0 := hx
    have hx0 : xs = [] := List.length_eq_zero_iff.1 Hln.out
    have ks := Lib.hid (sortD_none none 0 w1)
    have Hfin := Lib.hid (show w1.ownsRow w.heap.size 3 1 (.slice none 0 0) 0 (ints (sortD xs)) by rw [hx0]; exact ⟨by simp [sortD, ints], .inl ⟨rfl, rfl⟩⟩)
    clear ho hb
    go_wp2_with fail
    refine (ks.out).mono ?_
    rintro ee w2 ⟨rfl, rfl⟩
    go_wp2_with fail
    go_ret
    exact ⟨_, rfl, Hfin.out, Hb.out⟩
  · subst hv
    have hlt := (ho.lt g rfl).2
    have ks := Lib.hid (sortD_any g 0 len c xs w1 (by rw [Hln.out]; exact Nat.le_refl _) (by omega) hlt (fun j hj => by rw [Nat.zero_add, ho.cellAt j (by rw [Hln.out] at hj; omega), ints_get xs j hj]) (fun j hj => by rw [Nat.zero_add]; exact ho.frozenAt j))
    have hfin : ∀ q os, (grow ((w1.drewN q).setCells g 0 (((xs.take len).mergeSort fun x y => decide (y ≤ x)).map (Value.int .i64))) os).ownsRow w.heap.size 3 1 (.slice (some ⟨g, 0, none⟩) len c) len (ints (sortD xs)) ∧
        Below w.heap.size w (grow ((w1.drewN q).setCells g 0 (((xs.take len).mergeSort fun x y => decide (y ≤ x)).map (Value.int .i64))) os) := by
      intro q os
      have hts : xs.take len = xs := List.take_of_length_le (by rw [Hln.out]; exact Nat.le_refl _)
      rw [hts]
      have h1 := ho.kept (grown_drewN' w1 q none) (.inr (by simp [Value.ownBlock]))
      have h2 := own_setCells ((xs.mergeSort fun x y => decide (y ≤ x)).map (Value.int .i64)) 0 _ _ h1 (by simp [Hln.out])
      rw [List.take_zero, List.nil_append] at h2
      refine ⟨h2.1.kept (grown_grow _ os none) (.inr (by simp [Value.ownBlock])), ?_⟩
      exact hb.grown (((grown_drewN' w1 q (some g)).trans h2.2).trans (grown_grow _ os (some g))) hb.size (fun k e => by cases e; exact hlo)
    have Hfin := Lib.hid hfin
    clear ho hb hrest hfin
    go_wp2_with fail
    refine (ks.out).mono ?_
    rintro ee w2 ⟨rfl, q, os, rfl⟩
    have Hf := Lib.hid (Hfin.out q os)
    obtain ⟨W2, hW2⟩ : ∃ W2, W2 = grow ((w1.drewN q).setCells g 0 (((xs.take len).mergeSort fun x y => decide (y ≤ x)).map (Value.int .i64))) os := ⟨_, rfl⟩
    rw [← hW2] at Hf ⊢
    clear hW2
    go_wp2_with fail
    go_ret
    exact ⟨_, rfl, Hf.out.1, Hf.out.2⟩

end Go.Proofs.Ytgkcpmhgmhioiaa

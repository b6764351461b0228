/- What is found is a circle; no point comes twice. No memory. -/
import Derived.Test.YtagdeifalkenhaaDoorRelCj
import Derived.Test.YtagdeifalkenhaaDoorRelO
namespace Go.Proofs.YtagdeifalkenhaaDoor
set_option maxRecDepth 100000
open Go

theorem Wlk.edge {xs : List Int} {ls : List Nat} {a : Nat} (h : Wlk xs ls a) : ∀ i, i < ls.length → (rw' xs ((ls ++ [a]).getD i 0)).testBit ((ls ++ [a]).getD (i + 1) 0) = true := by
  induction h with
  | start _ => intro i hi; simp at hi
  | @next l c d h1 h2 h3 ih =>
    intro i hi
    rw [List.length_append, List.length_singleton] at hi
    by_cases hl : i < l.length
    · have h4 := ih i hl
      have e1 : (l ++ [c] ++ [d]).getD i 0 = (l ++ [c]).getD i 0 := by
        rw [List.getD, List.getD, List.getElem?_append_left (by simp; omega)]
      have e2 : (l ++ [c] ++ [d]).getD (i + 1) 0 = (l ++ [c]).getD (i + 1) 0 := by
        rw [List.getD, List.getD, List.getElem?_append_left (by simp; omega)]
      rw [e1, e2]; exact h4
    · obtain rfl : i = l.length := by omega
      have e1 : (l ++ [c] ++ [d]).getD l.length 0 = c := by simp [List.getD]
      have e2 : (l ++ [c] ++ [d]).getD (l.length + 1) 0 = d := by simp [List.getD]
      rw [e1, e2]; exact h3.1.1
theorem cir_pt {ls : List Nat} {t k : Nat} (hk : t + k < ls.length) (a : Nat) : pt (nz (ls.drop t)) k = (ls ++ [a]).getD (t + k) 0 := by
  rw [pt, List.getD, List.getD, nz, List.getElem?_map, List.getElem?_drop, List.getElem?_append_left hk, List.getElem?_eq_getElem hk]
  simp
theorem cir_ok {xs : List Int} {r : List Nat} {o : Bool} (h : CirV xs r o) (ho : o = true) : circB xs (nz r) = true := by
  rcases h with ⟨h1, _⟩ | ⟨_, ls, a, t, h2, h3, h4, h5⟩
  · rw [h1] at ho; cases ho
  · subst h5
    have hR := edl_ok h2.edl
    have hlen : (nz (ls.drop t)).length = ls.length - t := by rw [nz_len, List.length_drop]
    refine circB_true.2 ⟨hR, by omega, upTo_true.2 (fun x hx => ?_), fun k hk => ?_⟩
    · rw [nz] at hx
      obtain ⟨p, hp, rfl⟩ := List.mem_map.1 hx
      have := (h2.all p (List.mem_of_mem_drop hp)).1
      simp only [Int.ofNat_eq_natCast]
      omega
    · rw [hlen] at hk ⊢
      have hat : (ls ++ [a]).getD t 0 = a := by rw [List.getD, List.getElem?_append_left h3, h4]; rfl
      have hal : (ls ++ [a]).getD ls.length 0 = a := by simp [List.getD]
      by_cases hk0 : k = 0
      · subst hk0
        have h6 := h2.edge (ls.length - 1) (by omega)
        rw [show ls.length - 1 + 1 = ls.length by omega, hal] at h6
        rw [prv, if_pos rfl, cir_pt (by omega) a, cir_pt (by omega) a, Nat.add_zero, hat, show t + (ls.length - t - 1) = ls.length - 1 by omega]
        exact h6
      · have h6 := h2.edge (t + (k - 1)) (by omega)
        rw [show t + (k - 1) + 1 = t + k by omega] at h6
        rw [prv, if_neg hk0, cir_pt (by omega) a, cir_pt (by omega) a]
        exact h6
theorem cir_new {xs : List Int} {r : List Nat} {o : Bool} (h : CirV xs r o) {k : Nat} (hk : k < r.length) : (nz r).getD k 0 ∉ (nz r).take k := by
  have hn : r.Nodup := by
    rcases h with ⟨_, h2, _⟩ | ⟨_, ls, a, t, h2, _, _, h5⟩
    · rw [h2]; exact List.nodup_nil
    · rw [h5]; exact h2.nodup.sublist (List.drop_sublist t ls)
  have e : (nz r).getD k 0 = ((r[k] : Nat) : Int) := by simp [nz, List.getD, hk]
  rw [e, show (nz r).take k = nz (r.take k) by simp [nz, List.map_take], nz_mem]
  intro hm
  obtain ⟨j, hj, he⟩ := List.mem_iff_getElem.1 hm
  rw [List.length_take] at hj
  rw [List.getElem_take] at he
  have := (List.getElem_inj hn).1 he
  omega

end Go.Proofs.YtagdeifalkenhaaDoor

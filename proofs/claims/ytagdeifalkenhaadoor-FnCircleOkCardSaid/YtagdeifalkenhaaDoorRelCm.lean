/- A circle's points have no rank; and it may begin at its next point. No memory. -/
import Derived.Test.YtagdeifalkenhaaDoorRelO
import Derived.Test.YtagdeifalkenhaaDoorRelH
namespace Go.Proofs.YtagdeifalkenhaaDoor
set_option maxRecDepth 100000
open Go

theorem circ_next {xs ps : List Int} (h : CircOk xs ps) {j : Nat} (hj : j < ps.length) : (rw' xs (pt ps j)).testBit (pt ps ((j + 1) % ps.length)) = true := by
  have h1 := h.2.2.2 ((j + 1) % ps.length) (Nat.mod_lt _ (by omega))
  rw [prv_next hj] at h1
  exact h1
theorem circ_rank {xs ps : List Int} (h : CircOk xs ps) {k : Nat} (hk : k < ps.length) : (ranks xs).getD (pt ps k) 0 = -1 := by
  obtain ⟨_, hr, _⟩ := ranks_spec h.1
  have key : ∀ (N j : Nat), j < ps.length → 0 ≤ (ranks xs).getD (pt ps j) 0 → (ranks xs).getD (pt ps j) 0 ≤ (N : Int) → False := by
    intro N
    induction N with
    | zero =>
      intro j hj h0 hN
      rcases hr _ (pt_int h.2.2.1 hj).2 with ⟨h1, _⟩ | ⟨_, h2, _⟩
      · have h1' : (ranks xs).getD (pt ps j) 0 = -1 := h1
        omega
      · have h3 : 0 ≤ (ranks xs).getD (pt ps ((j + 1) % ps.length)) 0 ∧ (ranks xs).getD (pt ps ((j + 1) % ps.length)) 0 < (ranks xs).getD (pt ps j) 0 := h2 _ (circ_next h hj)
        omega
    | succ N ih =>
      intro j hj h0 hN
      rcases hr _ (pt_int h.2.2.1 hj).2 with ⟨h1, _⟩ | ⟨_, h2, _⟩
      · have h1' : (ranks xs).getD (pt ps j) 0 = -1 := h1
        omega
      · have h3 : 0 ≤ (ranks xs).getD (pt ps ((j + 1) % ps.length)) 0 ∧ (ranks xs).getD (pt ps ((j + 1) % ps.length)) 0 < (ranks xs).getD (pt ps j) 0 := h2 _ (circ_next h hj)
        exact ih _ (Nat.mod_lt _ (by omega)) h3.1 (by omega)
  rcases hr _ (pt_int h.2.2.1 hk).2 with ⟨h1, _⟩ | ⟨h1, _⟩
  · exact h1
  · have h1' : 0 ≤ (ranks xs).getD (pt ps k) 0 := h1
    exact (key ((ranks xs).getD (pt ps k) 0).toNat k hk h1' (by omega)).elim
theorem circ_wf {xs ps : List Int} (h : CircOk xs ps) : wfB xs = false := by
  cases hw : wfB xs with
  | false => rfl
  | true =>
    have h1 := circ_rank h (k := 0) (by have := h.2.1; omega)
    have h2 := (wfB_true.1 hw).2 _ (pt_int h.2.2.1 (k := 0) (by have := h.2.1; omega)).2
    omega
/-- The circle from its second point on. -/
def rot (ps : List Int) : List Int := ps.drop 1 ++ [ps.getD 0 0]
theorem rot_len {ps : List Int} (h : 1 ≤ ps.length) : (rot ps).length = ps.length := by simp [rot]; omega
theorem rot_pt {ps : List Int} {k : Nat} (h : k < ps.length) : pt (rot ps) k = pt ps ((k + 1) % ps.length) := by
  unfold pt rot
  by_cases hk : k + 1 < ps.length
  · rw [Nat.mod_eq_of_lt hk, List.getD_eq_getElem?_getD, List.getElem?_append_left (by rw [List.length_drop]; omega), List.getElem?_drop, Nat.add_comm 1 k, ← List.getD_eq_getElem?_getD]
  · have hk1 : k = ps.length - 1 := by omega
    rw [show k + 1 = ps.length by omega, Nat.mod_self, List.getD_eq_getElem?_getD, List.getElem?_append_right (by rw [List.length_drop]; omega), List.length_drop, hk1, Nat.sub_self]
    rfl
theorem rot_circ {xs ps : List Int} (h : CircOk xs ps) : circB xs (rot ps) = true := by
  have hl := rot_len h.2.1
  refine circB_true.2 ⟨h.1, by rw [hl]; exact h.2.1, upTo_true.2 (fun x hx => ?_), fun k hk => ?_⟩
  · refine upTo_true.1 h.2.2.1 x ?_
    rw [rot, List.mem_append, List.mem_singleton] at hx
    rcases hx with hx | rfl
    · exact List.mem_of_mem_drop hx
    · have h1 := h.2.1
      rw [List.getD_eq_getElem?_getD, List.getElem?_eq_getElem (by omega)]
      exact List.getElem_mem _
  · rw [hl] at hk ⊢
    rw [rot_pt (prv_lt hk), rot_pt hk, next_prv hk]
    exact circ_next h hk

end Go.Proofs.YtagdeifalkenhaaDoor

/- slices.Delete of one pointer to a node, in place. -/
import Derived.Test.YtdcgcohfbcdnnaaHydRP
import Derived.Lib.LazyBuf
import Derived.Lib.BufferWrite
import Derived.Lib.SliceRun
import Derived.Deep.RegionLaw
namespace Go.Proofs.Ytdcgcohfbcdnnaa
set_option maxRecDepth 100000
open Go.RowKit

theorem grownBy_setCells (b : Nat) : ∀ (vs : List Value) (o : Nat) (w : World), w.grownBy (w.setCells b o vs) (some b)
  | [], _, _ => ⟨rfl, rfl, rfl, Nat.le_refl _, fun _ _ _ => rfl⟩
  | v :: r, o, w => grownBy_trans (Lib.grownBy_setCell w b o v) (grownBy_setCells b r (o + 1) _)

theorem grown_drew' (w : World) (row : Option Nat) : w.grownBy w.drew row := ⟨rfl, rfl, rfl, Nat.le_refl _, fun _ _ _ => rfl⟩

/-- The row without its i-th pointer: those behind it stand one further ahead, and the last place is empty. -/
def delF (f : Nat → Value) (n i : Nat) : Nat → Value := fun j => if j + 1 < n then (if j < i then f j else f (j + 1)) else if j + 1 = n then .pointer none else f j

/-- What lies behind stands one further ahead. -/
def mvF (f : Nat → Value) (n i : Nat) : Nat → Value := fun j => if i ≤ j ∧ j + 1 < n then f (j + 1) else f j

def newsOf (f : Nat → Value) (n i : Nat) : List Value := (List.range (n - (i + 1))).map fun k => f (i + 1 + k)
theorem newsOf_len (f : Nat → Value) (n i : Nat) : (newsOf f n i).length = n - (i + 1) := by simp [newsOf]

theorem rowIs_cell {w : World} {b cap : Nat} {t : TypeId} {f : Nat → Value} (h : w.rowIs b t cap f) {j : Nat} (hj : j < cap) : w.cell? ⟨b, j, none⟩ = some (f j) := by
  obtain ⟨c, h1, h2, h3⟩ := h
  rw [Joins.cell_of_block h1]
  exact h3 j hj
theorem rowIs_thaw {w : World} {b cap : Nat} {t : TypeId} {f : Nat → Value} (h : w.rowIs b t cap f) {j : Nat} : w.frozen? ⟨b, j, none⟩ = false := by
  obtain ⟨c, h1, h2, h3⟩ := h
  simp [World.frozen?, h1]
  try omega

theorem rowIs_mv {w : World} {b cap n i : Nat} {t : TypeId} {f : Nat → Value} (h : w.rowIs b t cap f) (hi : i < n) : (w.setCells b i (newsOf f n i)).rowIs b t cap (mvF f n i) := by
  refine (rowIs_setCells (newsOf f n i) i w f h).congr (fun j _ => ?_)
  unfold mvF
  rw [newsOf_len]
  by_cases h1 : i ≤ j ∧ j + 1 < n
  · rw [if_pos h1, if_pos (by omega)]
    simp [newsOf, show j - i < n - (i + 1) by omega, show i + 1 + (j - i) = j + 1 by omega]
  · rw [if_neg h1, if_neg (by omega)]

theorem rowIs_del {w : World} {b cap n i : Nat} {t : TypeId} {f : Nat → Value} (h : w.rowIs b t cap (mvF f n i)) (hi : i < n) : (w.setCells b (n - 1) [.pointer none]).rowIs b t cap (delF f n i) := by
  refine (rowIs_setCells [.pointer none] (n - 1) w _ h).congr (fun j _ => ?_)
  unfold mvF delF
  simp only [List.length_singleton]
  by_cases h1 : j + 1 < n
  · rw [if_pos h1, if_neg (by omega)]
    by_cases h2 : j < i
    · rw [if_pos h2, if_neg (by omega)]
    · rw [if_neg h2, if_pos (by omega)]
  · by_cases h2 : j + 1 = n
    · rw [if_pos (by omega), if_neg h1, if_pos h2]
      simp [show j - (n - 1) = 0 by omega]
    · rw [if_neg (by omega), if_neg h1, if_neg h2, if_neg (by omega)]

theorem step_del {P : Program} {ops : Array Oper} {o : Oper} {a : Act} {w : World} {K : Act → World → Prop} {Q : Exit → Act → World → Prop} {E : Prop}
    (hg : o.guard = none) (s x : Operand) (t : TypeId) (hop : o.op = Op.call { callee := Callee.builtin Builtin.append, args := #[s, x], argTypes := #[t, t] })
    (e : TypeId) (i0 : TypeInfo) (h1 : P.underlying t = some (.slice e)) (h2 : P.info? e = some i0) (h4 : i0.size = 1)
    (b n cap i : Nat) (f : Nat → Value) (hr : w.rowIs b e cap f) (hin : i < n) (hnc : n ≤ cap) (hone : ∀ j, j < n → (f j).oneCell' = true)
    (hs : a.eval s = .slice (some ⟨b, 0, none⟩) i cap) (ad : Addr) (c : Nat) (hx : a.eval x = .slice (some ad) (n - (i + 1)) c) (had : i + 1 < n → ad = ⟨b, i + 1, none⟩)
    (hK : ∀ w', Hid (w'.rowIs b e cap (mvF f n i)) → Hid (w.grownBy w' (some b)) → K (a.put o.dst (.slice (some ⟨b, 0, none⟩) (n - 1) cap)) w') :
    if Region.wanted o (yielded ops a.tmps) = true then Oper.wp P o a w K Q else E := by
  refine step_append_room hg s x t hop e i0 1 h1 h2 h4 b 0 i cap hs ad (n - (i + 1)) c (newsOf f n i) hx (by rw [newsOf_len, Nat.mul_one]) ?_ ?_ (by omega) ?_ ?_
  · intro j u hj
    have hl := (List.getElem?_eq_some_iff.1 hj).1
    rw [newsOf_len] at hl
    rw [had (by omega), Addr.add_lit]
    simp [newsOf, hl] at hj
    rw [← hj]
    exact rowIs_cell hr (by omega)
  · intro u hu
    simp [newsOf] at hu
    obtain ⟨k, hk, rfl⟩ := hu
    exact hone _ (by omega)
  · intro j hj
    rw [newsOf_len] at hj
    exact ⟨by rw [rowIs_cell hr (by omega)]; rfl, rowIs_thaw hr⟩
  · rw [Nat.mul_one, Nat.zero_add, show i + (n - (i + 1)) = n - 1 by omega]
    exact hK _ (rowIs_mv hr hin) (grownBy_setCells b _ i w)

theorem node_zero : ∀ w, (zeroValue 68).run Try.prog w = .ok (.pointer none) w := by
  intro w
  obtain ⟨i0, hi, hz, _, _⟩ := info_parts info_node
  simp [zeroValue, typeInfo, hi, hz]

theorem run_del {w : World} {b n cap i : Nat} {f : Nat → Value} (c : Nat) (h : w.rowIs b 68 cap (mvF f n i)) (hi : i < n) (hn : n ≤ cap) :
    ∃ w', (∀ ty, (Builtin.clear_ #[81] ty #[.slice (some ⟨b, n - 1, none⟩) 1 c]).run Try.prog w = .ok (.tuple #[]) w') ∧ w'.rowIs b 68 cap (delF f n i) ∧ w.grownBy w' (some b) := by
  refine ⟨_, fun ty => Lib.run_clear_slice w 81 68 ty (.pointer none) Try.underlying81 node_zero rfl rfl b (n - 1) 1 c (by omega) ?_ ?_, rowIs_del h hi, grownBy_setCells b _ _ w⟩
  · intro j hj
    rw [rowIs_cell h (by omega)]; rfl
  · intro j hj
    exact rowIs_thaw h

set_option maxHeartbeats 2000000 in
theorem deleteP_any (b n cap i : Nat) (f : Nat → Value) (w : World) (hr : w.rowIs b 68 cap f) (hin : i < n) (hnc : n ≤ cap) (hcap : cap ≤ 9223372036854775807) (hone : ∀ j, j < n → (f j).oneCell' = true) :
    Calls Try.prog 75 #[.slice (some ⟨b, 0, none⟩) n cap, .int .i64 i, .int .i64 ((i : Int) + 1)] w fun e w' =>
      e = .returned (.slice (some ⟨b, 0, none⟩) (n - 1) cap) ∧ w'.rowIs b 68 cap (delF f n i) ∧ w.grownBy w' (some b) := by
  obtain ⟨i0, hi0, hz0, hz1, hz2⟩ := info_parts info_node
  obtain ⟨m, rfl⟩ : ∃ m, n = m + 1 := ⟨n - 1, by omega⟩
  rw [Nat.add_sub_cancel]
  have Hr := Lib.hid hr
  have Hone := Lib.hid hone
  have hq1 : (0 : Int) ≤ (i : Int) := by omega
  have hq2 : (i : Int) ≤ (i : Int) + 1 := by omega
  have hq3 : (i : Int) ≤ (m : Int) := by omega
  have hq4 : (m : Int) + 1 ≤ (cap : Int) := by omega
  have hq5 : (i : Int) ≤ (m : Int) + 1 := by omega
  have hq6 : (i : Int) ≤ (cap : Int) := by omega
  have hq7 : ((i : Int) == (i : Int) + 1) = false := by simp; omega
  have hq9 : (m : Int) ≤ (m : Int) + 1 := by omega
  have hq8 : (0 : Int) ≤ (i : Int) + 1 := by omega
  have Hrd := Lib.hid (show w.drew.rowIs b 68 cap f from Hr.out)
  have hfull := Lib.hid (show cap = i + 1 ∨ i + 1 < cap by omega)
  clear hr hone
  go_enter Try.func75, Try.ntmps75
  go_wp2_with fail
  rcases hfull.out with hfl | hfl
  · subst hfl
    obtain rfl : m = i := by omega
    go_region_law (refine step_del rfl (.tmp 22) (.tmp 25) 81 rfl 68 i0 Try.underlying81 hi0 hz1 b (m + 1) (m + 1) m f Hrd.out hin hnc Hone.out (by simp [Act.eval, Act.put]) ⟨b, 0, none⟩ 0 (by simp [Act.eval, Act.put]) (by omega) ?_; intro w2 hR2 hG2; rw [Nat.add_sub_cancel])
    have hG3 := grownBy_trans (grown_drew' w (some b)) hG2.out
    have h3 := run_del 1 hR2.out hin hnc
    simp only [Nat.add_sub_cancel] at h3
    obtain ⟨w3, hk3, hR3, hG4⟩ := h3
    have HR3 := Lib.hid hR3
    have HG3 := Lib.hid (grownBy_trans hG3 hG4)
    clear hG3 hR3 hG4 hR2 hG2
    go_wp2_with fail
    go_ret
    exact ⟨rfl, HR3.out, HG3.out⟩
  · go_region_law (refine step_del rfl (.tmp 22) (.tmp 25) 81 rfl 68 i0 Try.underlying81 hi0 hz1 b (m + 1) cap i f Hrd.out hin hnc Hone.out (by simp [Act.eval, Act.put]) ⟨b, i + 1, none⟩ (cap - (i + 1)) (by simp [Act.eval, Act.put]; omega) (fun _ => rfl) ?_; intro w2 hR2 hG2; rw [Nat.add_sub_cancel])
    have hG3 := grownBy_trans (grown_drew' w (some b)) hG2.out
    have h3 := run_del (cap - m) hR2.out hin hnc
    simp only [Nat.add_sub_cancel] at h3
    obtain ⟨w3, hk3, hR3, hG4⟩ := h3
    have HR3 := Lib.hid hR3
    have HG3 := Lib.hid (grownBy_trans hG3 hG4)
    clear hG3 hR3 hG4 hR2 hG2
    go_wp2_with fail
    go_ret
    exact ⟨rfl, HR3.out, HG3.out⟩

end Go.Proofs.Ytdcgcohfbcdnnaa

/- slices.Replace of one pointer to a node by several that lie in another block. -/
import Derived.Test.YtdcgcohfbcdnnaaHydDel
import Derived.Lib.AppendZerosOnto
import Derived.Shelf.Spec.SlicesInsertGrow
namespace Go.Proofs.Ytdcgcohfbcdnnaa
set_option maxRecDepth 100000
open Go.RowKit

theorem rowIs_heap {w w' : World} {b cap : Nat} {t : TypeId} {f : Nat → Value} (h : w.rowIs b t cap f) (e : w'.heap = w.heap) : w'.rowIs b t cap f := h.of_block (by rw [e])

theorem node_hsz : (Try.prog.info? 68).map (·.size) = some 1 := by
  obtain ⟨i0, hi, hz0, hz1, hz2⟩ := info_parts info_node
  rw [hi]; simp [hz1]

theorem cell_setCells_ne {w : World} {b vb o x : Nat} {vs : List Value} (h : vb ≠ b) : (w.setCells b o vs).cell? ⟨vb, x, none⟩ = w.cell? ⟨vb, x, none⟩ := World.cell?_setCells_out b vs o w _ (fun h' _ => absurd h' h)

theorem node_size1 : ∀ w, (Go.sizeOf 68).run Try.prog w = .ok 1 w := by
  intro w
  obtain ⟨i0, hi, hz, h1, h2⟩ := info_parts info_node
  simp [sizeOf, typeInfo, hi, h1]

/-- A copy into a row. -/
theorem run_cp {W : World} {b cap : Nat} {F : Nat → Value} (hr : W.rowIs b 68 cap F) (o dLen dCap : Nat) (a : Addr) (sLen sCap : Nat) (cs : List Value) (hn : cs.length = Nat.min sLen dLen) (hfit : o + cs.length ≤ cap)
    (hsrc : ∀ j v, cs[j]? = some v → W.cell? (a.add j) = some v) (h1 : ∀ v ∈ cs, v.oneCell' = true) (ty : TypeId) :
    (Builtin.copy_ #[81, 81] ty #[.slice (some ⟨b, o, none⟩) dLen dCap, .slice (some a) sLen sCap]).run Try.prog W = .ok (goInt cs.length) (W.setCells b o cs) :=
  run_copy_cells W _ _ ty 68 b o dLen dCap a sLen sCap cs Try.underlying81 node_hsz hn hsrc (fun j hj => by rw [rowIs_cell hr (by omega)]; rfl) (fun j _ => rowIs_thaw hr) h1

theorem run_clear_none (ty : TypeId) (p : Option Addr) (c : Nat) (w : World) : (Builtin.clear_ #[81] ty #[.slice p 0 c]).run Try.prog w = .ok (.tuple #[]) w := by
  cases p <;> simp [Builtin.clear_, run_underlying Try.underlying81]

/-- The row with vs in place of its i-th pointer. -/
def repF (f : Nat → Value) (vs : List Value) (i m : Nat) : Nat → Value := fun j => if j < i then f j else if j < i + m then vs[j - i]?.getD default else f (j + 1 - m)

def RepPost (w : World) (b : Nat) (f : Nat → Value) (vs : List Value) (n i m : Nat) (e : Ending) (w' : World) : Prop :=
  ∃ g c, e = .returned (.slice (some ⟨g, 0, none⟩) (n - 1 + m) c) ∧ g < w'.heap.size ∧ (∀ j, j < n - 1 + m → w'.cell? ⟨g, j, none⟩ = some (repF f vs i m j)) ∧ w.grownBy w' (some b) ∧ (g = b ∨ w.heap.size ≤ g)

theorem grownBy_two {w : World} {b o o' : Nat} {vs vs' : List Value} : w.grownBy ((w.drew.setCells b o vs).setCells b o' vs') (some b) :=
  grownBy_trans (grown_drew' w (some b)) (grownBy_trans (grownBy_setCells b vs o _) (grownBy_setCells b vs' o' _))

set_option maxHeartbeats 4000000 in
/-- At the end, with room. -/
theorem repP_room (b cap i vb m vc : Nat) (f : Nat → Value) (vs : List Value) (w : World) (hr : w.rowIs b 68 cap f) (hnc : i + 1 ≤ cap) (hcap : cap ≤ 9223372036854775807) (hn6 : i + 1 ≤ 1000000) (hm : 1 ≤ m) (hm1 : m ≤ 1000)
    (hvl : vs.length = m) (hone : ∀ u ∈ vs, u.oneCell' = true) (hvs : ∀ j v, vs[j]? = some v → w.cell? ⟨vb, 0 + j, none⟩ = some v) (hroom : i + m ≤ cap) :
    Calls Try.prog 77 #[.slice (some ⟨b, 0, none⟩) (i + 1) cap, .int .i64 i, .int .i64 ((i : Int) + 1), .slice (some ⟨vb, 0, none⟩) m vc] w (RepPost w b f vs (i + 1) i m) := by
  have hsrc := Src.ofSlice (P := Try.prog) (size := 1) w Try.underlying81 ⟨vb, 0, none⟩ m vc vs (by omega) (fun j u hj => by rw [Addr.add_lit]; exact hvs j u hj) hone
  obtain ⟨i0, hi0, hz0, hz1, hz2⟩ := info_parts info_node
  have hc : ∀ j, j < vs.length → (w.cell? ⟨b, 0 + i + j, none⟩).isSome = true := fun j hj => by rw [rowIs_cell hr (by omega)]; rfl
  have hf : ∀ j, j < vs.length → w.frozen? ⟨b, 0 + i + j, none⟩ = false := fun j hj => rowIs_thaw hr
  have hfin : RepPost w b f vs (i + 1) i m (.returned (.slice (some ⟨b, 0, none⟩) (i + m) cap)) (w.setCells b (0 + i) vs) := by
    refine ⟨b, cap, by rw [show i + 1 - 1 + m = i + m by omega], Nat.lt_of_lt_of_le hr.lt (grownBy_setCells b vs _ w).size, fun j hj => ?_, grownBy_setCells b vs _ w, .inl rfl⟩
    rw [rowIs_cell (rowIs_setCells vs (0 + i) w f hr) (by omega)]
    congr 1
    unfold repF
    by_cases h1 : j < i
    · rw [if_neg (by omega), if_pos h1]
    · rw [if_pos (by omega), if_neg h1, if_pos (by omega), Nat.zero_add]
  rw [Nat.zero_add] at hfin
  have Hfin := Lib.hid hfin
  have Hsrc := Lib.hid hsrc
  have Hc := Lib.hid hc
  have Hf := Lib.hid hf
  have hq1 : (0 : Int) ≤ (i : Int) := by omega
  have hq2 : (i : Int) ≤ (i : Int) + 1 := by omega
  have hq4 : (i : Int) + 1 ≤ (cap : Int) := by omega
  have hq6 : (i : Int) ≤ (cap : Int) := by omega
  have hq7 : ((i : Int) == (i : Int) + 1) = false := by simp; omega
  have hq8 : (0 : Int) ≤ (i : Int) + 1 := by omega
  have hq9 : ¬ ((i : Int) + (m : Int) < (i : Int) + 1) := by omega
  clear hr hfin hsrc hc hf hvs
  go_enter Try.func77, Try.ntmps77
  go_wp2_with (at_builtin; refine wpList_append_room1 _ rfl _ _ 81 81 rfl 68 _ _ Try.underlying81 info_node b 0 i cap rfl _ rfl m vs Hsrc.out hroom Hc.out Hf.out ?_)
  go_ret
  exact Hfin.out

set_option maxHeartbeats 4000000 in
/-- At the end, without room. -/
theorem repP_grow (b cap i vb m vc : Nat) (f : Nat → Value) (vs : List Value) (w : World) (hr : w.rowIs b 68 cap f) (hnc : i + 1 ≤ cap) (hcap : cap ≤ 9223372036854775807) (hn6 : i + 1 ≤ 1000000) (hm : 1 ≤ m) (hm1 : m ≤ 1000)
    (hvl : vs.length = m) (hone : ∀ u ∈ vs, u.oneCell' = true) (hvs : ∀ j v, vs[j]? = some v → w.cell? ⟨vb, 0 + j, none⟩ = some v) (hroom : cap < i + m) :
    Calls Try.prog 77 #[.slice (some ⟨b, 0, none⟩) (i + 1) cap, .int .i64 i, .int .i64 ((i : Int) + 1), .slice (some ⟨vb, 0, none⟩) m vc] w (RepPost w b f vs (i + 1) i m) := by
  obtain ⟨i0, hi0, hz0, hz1, hz2⟩ := info_parts info_node
  have hsrc : Src Try.prog i0.size 81 (.slice (some ⟨vb, 0, none⟩) m vc) m vs w := by
    rw [hz1]
    exact Src.ofSlice w Try.underlying81 ⟨vb, 0, none⟩ m vc vs (by omega) (fun j u hj => by rw [Addr.add_lit]; exact hvs j u hj) hone
  obtain ⟨cs, hcs⟩ : ∃ cs, cs = (List.range i).map f := ⟨_, rfl⟩
  have hcl : cs.length = i := by rw [hcs]; simp
  have hold : (Builtin.firstCells i0.size i (.slice (some ⟨b, 0, none⟩) i cap)).run Try.prog w.drew = .ok cs.toArray w.drew := by
    rw [hz1]
    exact run_firstCells_some w.drew 1 i ⟨b, 0, none⟩ i cap cs (by omega) (fun j v hj => by
      have hjl := (List.getElem?_eq_some_iff.1 hj).1
      rw [Addr.add_lit, Nat.zero_add]
      have h1 : w.drew.cell? ⟨b, j, none⟩ = some (f j) := rowIs_cell hr (by omega)
      rw [h1, ← hj, hcs]
      rw [hcl] at hjl
      simp [hjl])
  have hrun : ∀ ty, (Builtin.append_ #[81, 81] ty #[.slice (some ⟨b, 0, none⟩) i cap, .slice (some ⟨vb, 0, none⟩) m vc]).run Try.prog w = _ := fun ty =>
    run_append_grow_src w 81 81 ty 68 i0 _ Try.underlying81 hi0 hz0 (some ⟨b, 0, none⟩) i cap cs hold _ m vs hsrc hroom (by omega) (by rw [hz2]; exact growslice_fits hroom (by omega))
  obtain ⟨G, hG⟩ : ∃ G, G = grownCap w (i + m) cap 68 := ⟨_, rfl⟩
  rw [← hG] at hrun
  have hfin : RepPost w b f vs (i + 1) i m (.returned (.slice (some ⟨w.heap.size, 0, none⟩) (i + m) G)) (w.drew.alloc (.cells ((cs ++ vs).toArray ++ Builtin.zeroCells (Value.pointer none).cells (G - (i + m))) 68)) := by
    refine ⟨w.heap.size, G, by rw [show i + 1 - 1 + m = i + m by omega], by simp, fun j hj => ?_, grownBy_trans (grown_drew' w (some b)) (World.grownBy_alloc _ _ _), .inr (Nat.le_refl _)⟩
    rw [World.cell?_alloc_at (w := w.drew) _ _ w.heap.size j rfl]
    have hl : (cs ++ vs).length = i + m := by rw [List.length_append, hcl, hvl]
    rw [Array.getElem?_append_left (by simp [hcl, hvl]; omega)]
    unfold repF
    by_cases h1 : j < i
    · rw [if_pos h1, List.getElem?_toArray, List.getElem?_append_left (by omega), hcs]
      simp [h1]
    · rw [if_neg h1, if_pos (by omega), List.getElem?_toArray, List.getElem?_append_right (by omega), hcl, List.getElem?_eq_getElem (by omega)]
      rfl
  obtain ⟨W, hW⟩ : ∃ W, W = w.drew.alloc (.cells ((cs ++ vs).toArray ++ Builtin.zeroCells (Value.pointer none).cells (G - (i + m))) 68) := ⟨_, rfl⟩
  rw [← hW] at hfin hrun
  have Hfin := Lib.hid hfin
  have Hrun := Lib.hid hrun
  have hq1 : (0 : Int) ≤ (i : Int) := by omega
  have hq2 : (i : Int) ≤ (i : Int) + 1 := by omega
  have hq4 : (i : Int) + 1 ≤ (cap : Int) := by omega
  have hq6 : (i : Int) ≤ (cap : Int) := by omega
  have hq7 : ((i : Int) == (i : Int) + 1) = false := by simp; omega
  have hq8 : (0 : Int) ≤ (i : Int) + 1 := by omega
  have hq9 : ¬ ((i : Int) + (m : Int) < (i : Int) + 1) := by omega
  clear hr hfin hsrc hvs hold hcs hcl hrun hW hG
  go_enter Try.func77, Try.ntmps77
  go_wp2_with (at_builtin; refine Lib.wpList_append_run _ rfl _ _ _ _ rfl _ _ rfl rfl _ _ (Hrun.out _) ?_)
  go_ret
  exact Hfin.out

/-- What the two copies leave. -/
theorem rep_rowIs {W : World} {b cap n i m : Nat} {f : Nat → Value} {vs : List Value} (hr : W.rowIs b 68 cap f) (hin : i + 1 < n) (hvl : vs.length = m) (hroom : n - 1 + m ≤ cap) :
    ∀ j, j < n - 1 + m → ((W.setCells b (i + m) (newsOf f n i)).setCells b i vs).cell? ⟨b, j, none⟩ = some (repF f vs i m j) := by
  intro j hj
  rw [rowIs_cell (rowIs_setCells vs i _ _ (rowIs_setCells (newsOf f n i) (i + m) W f hr)) (by omega)]
  congr 1
  unfold repF
  rw [newsOf_len]
  by_cases h1 : j < i
  · rw [if_neg (by omega), if_neg (by omega), if_pos h1]
  · by_cases h2 : j < i + m
    · rw [if_pos (by omega), if_neg h1, if_pos h2]
    · rw [if_neg (by omega), if_pos (by omega), if_neg h1, if_neg h2]
      simp [newsOf, show j - (i + m) < n - (i + 1) by omega, show i + 1 + (j - (i + m)) = j + 1 - m by omega]

theorem newsOf_cell {W : World} {b cap n i : Nat} {f : Nat → Value} (hr : W.rowIs b 68 cap f) (hn : n ≤ cap) : ∀ j v, (newsOf f n i)[j]? = some v → W.cell? ((⟨b, i + 1, none⟩ : Addr).add j) = some v := by
  intro j v hj
  have hjl := (List.getElem?_eq_some_iff.1 hj).1
  rw [newsOf_len] at hjl
  rw [Addr.add_lit, rowIs_cell hr (by omega), ← hj]
  simp [newsOf, hjl]

theorem newsOf_one {n i : Nat} {f : Nat → Value} (hone : ∀ j, j < n → (f j).oneCell' = true) : ∀ v ∈ newsOf f n i, v.oneCell' = true := by
  intro v hv
  simp [newsOf] at hv
  obtain ⟨k, hk, rfl⟩ := hv
  exact hone _ (by omega)

set_option maxHeartbeats 4000000 in
/-- In the middle, with room, by several. -/
theorem repP_shift (b n cap i vb m vc : Nat) (f : Nat → Value) (vs : List Value) (w : World) (hr : w.rowIs b 68 cap f) (hin : i + 1 < n) (hnc : n ≤ cap) (hcap : cap ≤ 9223372036854775807) (hn6 : n ≤ 1000000) (hm : 2 ≤ m) (hm1 : m ≤ 1000)
    (hvl : vs.length = m) (hone : ∀ u ∈ vs, u.oneCell' = true) (honf : ∀ j, j < n → (f j).oneCell' = true) (hvs : ∀ j v, vs[j]? = some v → w.cell? ⟨vb, 0 + j, none⟩ = some v) (hvb : vb ≠ b)
    (tA tB : TypeId) (kA kB : Nat) (hsa : w.shape? vb = some (tA, kA)) (hkA : kA ≠ 0) (hsb : w.shape? b = some (tB, kB)) (hfa : w.frozen? ⟨b, i + m, none⟩ = false) (hfe : w.frozen? ⟨b, kB, none⟩ = false) (hroom : n - 1 + m ≤ cap) :
    Calls Try.prog 77 #[.slice (some ⟨b, 0, none⟩) n cap, .int .i64 i, .int .i64 ((i : Int) + 1), .slice (some ⟨vb, 0, none⟩) m vc] w (RepPost w b f vs n i m) := by
  have hov : ∀ la ca, (callFunc 86 #[.slice (some ⟨b, i + m, none⟩) la ca, .slice (some ⟨vb, 0, none⟩) m vc]).run Try.prog w.drew = .ok (.value (.bool false)) w.drew := fun la ca => by
    rw [run_callFunc_extern Try.func86 (by kernel_rfl) (by kernel_rfl) (by kernel_rfl) (e := Extern.SlicesOverlaps.overlaps #[81, 81] #[4]) (by kernel_rfl),
      Lib.run_overlaps_apart w.drew 81 4 68 Try.underlying81 1 node_size1 ⟨b, i + m, none⟩ ⟨vb, 0, none⟩ la ca m vc (Ne.symm hvb) tB tA kB kA hsb hsa hkA hfa hfe]
    rfl
  obtain ⟨p, rfl⟩ : ∃ p, n = i + 1 + p := ⟨n - (i + 1), by omega⟩
  have hdl : (newsOf f (i + 1 + p) i).length = p := by rw [newsOf_len]; omega
  have hrd : w.drew.rowIs b 68 cap f := hr
  have hcp1 : ∀ ty dc sc, (Builtin.copy_ #[81, 81] ty #[.slice (some ⟨b, i + m, none⟩) p dc, .slice (some ⟨b, i + 1, none⟩) p sc]).run Try.prog w.drew.drew = .ok (goInt p) (w.drew.drew.setCells b (i + m) (newsOf f (i + 1 + p) i)) := fun ty dc sc => by
    have h := run_cp (W := w.drew.drew) hr (i + m) p dc ⟨b, i + 1, none⟩ p sc (newsOf f (i + 1 + p) i) (by rw [hdl]; exact (Nat.min_self p).symm) (by rw [hdl]; omega) (newsOf_cell (W := w.drew.drew) hr hnc) (newsOf_one honf) ty
    rw [hdl] at h
    exact h
  obtain ⟨W1, hW1⟩ : ∃ W1, W1 = w.drew.drew.setCells b (i + m) (newsOf f (i + 1 + p) i) := ⟨_, rfl⟩
  have hr1 := rowIs_setCells (newsOf f (i + 1 + p) i) (i + m) w.drew.drew f hr
  rw [← hW1] at hr1
  have hcp2 : ∀ ty dl dc, m ≤ dl → (Builtin.copy_ #[81, 81] ty #[.slice (some ⟨b, i, none⟩) dl dc, .slice (some ⟨vb, 0, none⟩) m vc]).run Try.prog W1 = .ok (goInt m) (W1.setCells b i vs) := fun ty dl dc hdl' => by
    have h := run_cp hr1 i dl dc ⟨vb, 0, none⟩ m vc vs (by rw [hvl]; exact (Nat.min_eq_left hdl').symm) (by omega) (fun j v hj => by rw [Addr.add_lit, hW1, cell_setCells_ne hvb]; exact hvs j v hj) hone ty
    rw [hvl] at h
    exact h
  have hfin : RepPost w b f vs (i + 1 + p) i m (.returned (.slice (some ⟨b, 0, none⟩) (i + m + p) cap)) (W1.setCells b i vs) := by
    refine ⟨b, cap, by rw [show i + 1 + p - 1 + m = i + m + p by omega], by rw [hW1]; exact Nat.lt_of_lt_of_le hr.lt (grownBy_trans (grown_drew' w (some b)) grownBy_two).size, fun j hj => ?_, by rw [hW1]; exact grownBy_trans (grown_drew' w (some b)) grownBy_two, .inl rfl⟩
    rw [hW1]
    exact rep_rowIs (W := w.drew.drew) hr hin hvl hroom j hj
  rw [← hW1] at hcp1
  have Hfin := Lib.hid hfin
  have Hcp1 := Lib.hid hcp1
  have Hcp2 := Lib.hid hcp2
  have Hov := Lib.hid hov
  have hq1 : (0 : Int) ≤ (i : Int) := by omega
  have hq2 : (i : Int) ≤ (i : Int) + 1 := by omega
  have hq4 : (i : Int) + 1 ≤ (cap : Int) := by omega
  have hq6 : (i : Int) ≤ (cap : Int) := by omega
  have hq7 : ((i : Int) == (i : Int) + 1) = false := by simp; omega
  have hq8 : (0 : Int) ≤ (i : Int) + 1 := by omega
  have hq9 : ¬ (p = 0) := by omega
  have hqa : ¬ ((cap : Int) < (i : Int) + (m : Int) + (p : Int)) := by omega
  have hqb : ¬ ((i : Int) + (m : Int) ≤ (i : Int) + 1) := by omega
  have hqc : ¬ (cap = i + m) := by omega
  have hqd : ¬ (cap = i) := by omega
  have hqe : ¬ (cap = i + 1) := by omega
  have hw1 : IntKind.i64.wrap ((i : Int) + (m : Int)) = (i : Int) + (m : Int) := by rw [IntKind.wrap_i64]; omega
  have hw2 : (0 : Int) ≤ (i : Int) + (m : Int) := by omega
  have hw3 : (i : Int) + (m : Int) ≤ (i : Int) + (m : Int) + (p : Int) := by omega
  have hw4 : (i : Int) + 1 ≤ (i : Int) + 1 + (p : Int) := by omega
  have htn : ((i : Int) + (m : Int)).toNat = i + m := by omega
  have htn1 : ((i : Int) + 1).toNat = i + 1 := by omega
  clear hr hrd hfin hvs hcp1 hcp2 hr1 hW1 hov
  go_enter Try.func77, Try.ntmps77
  go_wp2_with fail
  go_region
  go_wp2_with (simp only [Hov.out])
  go_region_law (refine step_copy_runI rfl (.tmp 126) (.tmp 129) 81 81 rfl (.slice (some ⟨b, i + m, none⟩) p (cap - (i + m))) (.slice (some ⟨b, i + 1, none⟩) p (cap - (i + 1))) (by simp [Act.eval, Act.put] <;> omega) (by simp [Act.eval, Act.put] <;> omega) (Hcp1.out _ _ _) ?_)
  go_wp2_with (with_reducible refine wpList_copy_runI (o := ⟨some 135, _, _, _, _, _⟩) _ rfl (.tmp 133) (.tmp 134) 81 81 rfl (.slice (some ⟨b, i, none⟩) (i + m + p - i) (cap - i)) (.slice (some ⟨vb, 0, none⟩) m vc) rfl rfl (Hcp2.out _ (i + m + p - i) (cap - i) (by omega)) ?_)
  go_ret
  exact Hfin.out

set_option maxHeartbeats 4000000 in
/-- In the middle, one by one. -/
theorem repP_one (b n cap i vb vc : Nat) (f : Nat → Value) (x : Value) (w : World) (hr : w.rowIs b 68 cap f) (hin : i + 1 < n) (hnc : n ≤ cap) (hcap : cap ≤ 9223372036854775807) (hn6 : n ≤ 1000000)
    (hone : x.oneCell' = true) (honf : ∀ j, j < n → (f j).oneCell' = true) (hvs : w.cell? ⟨vb, 0, none⟩ = some x) :
    Calls Try.prog 77 #[.slice (some ⟨b, 0, none⟩) n cap, .int .i64 i, .int .i64 ((i : Int) + 1), .slice (some ⟨vb, 0, none⟩) 1 vc] w (RepPost w b f [x] n i 1) := by
  obtain ⟨p, rfl⟩ : ∃ p, n = i + 1 + p := ⟨n - (i + 1), by omega⟩
  have hdl : (newsOf f (i + 1 + p) i).length = p := by rw [newsOf_len]; omega
  have hsw : w.drew.rowIs b 68 cap f := hr
  have hcp1 : ∀ ty dl dc, 1 ≤ dl → (Builtin.copy_ #[81, 81] ty #[.slice (some ⟨b, i, none⟩) dl dc, .slice (some ⟨vb, 0, none⟩) 1 vc]).run Try.prog w.drew = .ok (goInt 1) (w.drew.setCells b i [x]) := fun ty dl dc hdl' =>
    run_cp hsw i dl dc ⟨vb, 0, none⟩ 1 vc [x] (Nat.min_eq_left hdl').symm (by simp; omega) (fun j v hj => by
      obtain ⟨rfl, rfl⟩ : j = 0 ∧ x = v := by
        cases j with
        | zero => simpa using hj
        | succ j => simp at hj
      exact hvs) (by simpa using hone) ty
  have hr1 : (w.drew.setCells b i [x]).rowIs b 68 cap (fun j => if j = i then x else f j) := (rowIs_setCells [x] i w.drew f hr).congr (fun j _ => by
    by_cases h1 : j = i
    · subst h1; simp
    · rw [if_neg h1, if_neg (by simp; omega)])
  obtain ⟨W1, hW1⟩ : ∃ W1, W1 = w.drew.setCells b i [x] := ⟨_, rfl⟩
  rw [← hW1] at hcp1 hr1
  have hcl : ∀ j v, (newsOf f (i + 1 + p) i)[j]? = some v → W1.drew.cell? ((⟨b, i + 1, none⟩ : Addr).add j) = some v := by
    intro j v hj
    have hjl := (List.getElem?_eq_some_iff.1 hj).1
    rw [hdl] at hjl
    have h2 : W1.drew.cell? ⟨b, i + 1 + j, none⟩ = some (if i + 1 + j = i then x else f (i + 1 + j)) := rowIs_cell hr1 (by omega)
    rw [if_neg (by omega)] at h2
    rw [Addr.add_lit, h2, ← hj]
    simp [newsOf, show j < p by omega]
  have hcp2 : ∀ ty dc sc, (Builtin.copy_ #[81, 81] ty #[.slice (some ⟨b, i + 1, none⟩) p dc, .slice (some ⟨b, i + 1, none⟩) p sc]).run Try.prog W1.drew = .ok (goInt p) (W1.drew.setCells b (i + 1) (newsOf f (i + 1 + p) i)) := fun ty dc sc => by
    have h := run_cp (W := W1.drew) hr1 (i + 1) p dc ⟨b, i + 1, none⟩ p sc (newsOf f (i + 1 + p) i) (by rw [hdl]; exact (Nat.min_self p).symm) (by rw [hdl]; omega) hcl (newsOf_one honf) ty
    rw [hdl] at h
    exact h
  have hfin : RepPost w b f [x] (i + 1 + p) i 1 (.returned (.slice (some ⟨b, 0, none⟩) (i + 1 + p) cap)) (W1.drew.setCells b (i + 1) (newsOf f (i + 1 + p) i)) := by
    have hg : w.grownBy (W1.drew.setCells b (i + 1) (newsOf f (i + 1 + p) i)) (some b) := by
      rw [hW1]
      exact grownBy_trans (grownBy_trans (grown_drew' w (some b)) (grownBy_setCells b [x] i _)) (grownBy_trans (grown_drew' _ (some b)) (grownBy_setCells b _ _ _))
    refine ⟨b, cap, by rw [show i + 1 + p - 1 + 1 = i + 1 + p by omega], Nat.lt_of_lt_of_le hr.lt hg.size, fun j hj => ?_, hg, .inl rfl⟩
    rw [rowIs_cell (rowIs_setCells (newsOf f (i + 1 + p) i) (i + 1) W1.drew _ hr1) (by omega)]
    congr 1
    unfold repF
    rw [hdl]
    by_cases h1 : j < i
    · rw [if_neg (by omega), if_neg (by omega), if_pos h1]
    · by_cases h2 : j = i
      · subst h2
        rw [if_neg (by omega), if_pos rfl, if_neg (by omega), if_pos (by omega)]
        simp
      · rw [if_pos (by omega), if_neg h1, if_neg (by omega)]
        simp [newsOf, show j - (i + 1) < p by omega, show i + 1 + (j - (i + 1)) = j by omega]
  have hcl3 := run_clear_none
  have Hfin := Lib.hid hfin
  have Hcp1 := Lib.hid hcp1
  have Hcp2 := Lib.hid hcp2
  have hq1 : (0 : Int) ≤ (i : Int) := by omega
  have hq2 : (i : Int) ≤ (i : Int) + 1 := by omega
  have hq4 : (i : Int) + 1 ≤ (cap : Int) := by omega
  have hq6 : (i : Int) ≤ (cap : Int) := by omega
  have hq7 : ((i : Int) == (i : Int) + 1) = false := by simp; omega
  have hq8 : (0 : Int) ≤ (i : Int) + 1 := by omega
  have hq9 : ¬ (p = 0) := by omega
  have hqa : ¬ ((cap : Int) < (i : Int) + 1 + (p : Int)) := by omega
  have hqd : ¬ (cap = i) := by omega
  have hqe : ¬ (cap = i + 1) := by omega
  have hw4 : (i : Int) + 1 ≤ (i : Int) + 1 + (p : Int) := by omega
  have htn1 : ((i : Int) + 1).toNat = i + 1 := by omega
  have hw5 : IntKind.i64.wrap ((i : Int) + 1) = (i : Int) + 1 := by rw [IntKind.wrap_i64]; omega
  have hw6 : IntKind.i64.wrap ((i : Int) + 1 + (p : Int)) = (i : Int) + 1 + (p : Int) := by rw [IntKind.wrap_i64]; omega
  have hw7 : ((i : Int) + 1 + (p : Int)).toNat = i + 1 + p := by omega
  have hw8 : (0 : Int) ≤ (i : Int) + 1 + (p : Int) := by omega
  have hw9 : (i : Int) + 1 + (p : Int) ≤ (cap : Int) := by omega
  clear hr hsw hfin hvs hcp1 hcp2 hr1 hW1 hcl honf
  go_enter Try.func77, Try.ntmps77
  go_wp2_with fail
  go_region
  go_wp2_with (with_reducible refine wpList_copy_runI (o := ⟨some 97, _, _, _, _, _⟩) _ rfl (.tmp 95) (.tmp 96) 81 81 rfl (.slice (some ⟨b, i, none⟩) (i + 1 + p - i) (cap - i)) (.slice (some ⟨vb, 0, none⟩) 1 vc) rfl rfl (Hcp1.out _ (i + 1 + p - i) (cap - i) (by omega)) ?_)
  go_region_law (refine step_copy_runI rfl (.tmp 103) (.tmp 106) 81 81 rfl (.slice (some ⟨b, i + 1, none⟩) p (cap - (i + 1))) (.slice (some ⟨b, i + 1, none⟩) p (cap - (i + 1))) (by simp [Act.eval, Act.put] <;> omega) (by simp [Act.eval, Act.put] <;> omega) (Hcp2.out _ _ _) ?_)
  go_wp2_with fail
  · go_ret
    obtain rfl : cap = i + 1 + p := by first | assumption | omega
    exact Hfin.out
  · go_ret
    exact Hfin.out

set_option maxHeartbeats 4000000 in
/-- In the middle, without room. -/
theorem repP_new (b n cap i vb m vc : Nat) (f : Nat → Value) (vs : List Value) (w : World) (hr : w.rowIs b 68 cap f) (hin : i + 1 < n) (hnc : n ≤ cap) (hcap : cap ≤ 9223372036854775807) (hn6 : n ≤ 1000000) (hm : 2 ≤ m) (hm1 : m ≤ 1000)
    (hvl : vs.length = m) (hone : ∀ u ∈ vs, u.oneCell' = true) (honf : ∀ j, j < n → (f j).oneCell' = true) (hvs : ∀ j v, vs[j]? = some v → w.cell? ⟨vb, 0 + j, none⟩ = some v) (hvw : vb < w.heap.size) (hroom : cap < n - 1 + m) :
    Calls Try.prog 77 #[.slice (some ⟨b, 0, none⟩) n cap, .int .i64 i, .int .i64 ((i : Int) + 1), .slice (some ⟨vb, 0, none⟩) m vc] w (RepPost w b f vs n i m) := by
  obtain ⟨i0, hi0, hz0, hz1, hz2⟩ := info_parts info_node
  obtain ⟨p, rfl⟩ : ∃ p, n = i + 1 + p := ⟨n - (i + 1), by omega⟩
  obtain ⟨cs, hcs⟩ : ∃ cs, cs = (List.range i).map f := ⟨_, rfl⟩
  have hcl : cs.length = i := by rw [hcs]; simp
  have hold : (Builtin.firstCells i0.size i (.slice (some ⟨b, 0, none⟩) i cap)).run Try.prog w.drew.drew = .ok cs.toArray w.drew.drew := by
    rw [hz1]
    exact run_firstCells_some w.drew.drew 1 i ⟨b, 0, none⟩ i cap cs (by omega) (fun j v hj => by
      have hjl := (List.getElem?_eq_some_iff.1 hj).1
      rw [Addr.add_lit, Nat.zero_add]
      have h1 : w.drew.drew.cell? ⟨b, j, none⟩ = some (f j) := rowIs_cell hr (by omega)
      rw [h1, ← hj, hcs]
      rw [hcl] at hjl
      simp [hjl])
  have hik : i + (m + p) = i + m + p := by omega
  have hrz : ∀ ty, (Builtin.append_ #[81, 3] ty #[.slice (some ⟨b, 0, none⟩) i cap, .int .i64 ((m : Int) + (p : Int))]).run Try.prog w.drew =
      .ok (.slice (some ⟨w.heap.size, 0, none⟩) (i + m + p) (grownCap w.drew (i + m + p) cap 68)) (w.drew.drew.alloc (.cells (cs.toArray ++ Builtin.zeroCells (Value.pointer none).cells (m + p) ++ Builtin.zeroCells (Value.pointer none).cells (grownCap w.drew (i + m + p) cap 68 - (i + m + p))) 68)) := fun ty => by
    have h := Lib.run_append_grow_zeros w.drew 81 3 ty 68 i0 _ .i64 .i64 Try.underlying81 Try.underlying3 hi0 hz0 (some ⟨b, 0, none⟩) i cap cs hold (m + p) (by omega) (by omega) (by omega) (by omega) (by rw [hz2]; omega) (by rw [hz2, hik]; exact growslice_fits (by omega) (by omega))
    rw [hik] at h
    simpa using h
  obtain ⟨G, hG⟩ : ∃ G, G = grownCap w.drew (i + m + p) cap 68 := ⟨_, rfl⟩
  rw [← hG] at hrz
  have hGn : i + m + p ≤ G := by rw [hG]; exact grownCap_ge _ _ _ _
  have hG63 : G ≤ 9223372036854775807 := by
    have := grownCap_le_maxLen w.drew (i + m + p) cap 68 (by unfold maxLen; omega)
    rw [← hG] at this
    unfold maxLen at this
    omega
  obtain ⟨ROW, hROW⟩ : ∃ ROW : Array Value, ROW = cs.toArray ++ Builtin.zeroCells (Value.pointer none).cells (m + p) ++ Builtin.zeroCells (Value.pointer none).cells (G - (i + m + p)) := ⟨_, rfl⟩
  rw [← hROW] at hrz
  have hRs : ROW.size = G := by
    rw [hROW]
    simp [Builtin.zeroCells, Value.cells, hcl]
    omega
  have hRf : ∀ j, j < i → ROW[j]? = some (f j) := by
    intro j hj
    rw [hROW, Array.append_assoc, Array.getElem?_append_left (by simpa [hcl] using hj), hcs]
    simp [hj]
  obtain ⟨gf, hgf⟩ : ∃ gf : Nat → Value, gf = fun j => ROW[j]?.getD default := ⟨_, rfl⟩
  have hr0 : (w.drew.drew.alloc (.cells ROW 68)).rowIs w.heap.size 68 G gf := by
    have h := World.rowIs_alloc w.drew.drew ROW 68 gf (fun j hj => by rw [hgf]; simp [hj])
    rw [hRs] at h
    exact h
  obtain ⟨W1, hW1⟩ : ∃ W1, W1 = w.drew.drew.alloc (.cells ROW 68) := ⟨_, rfl⟩
  rw [← hW1] at hrz hr0
  have hbw := hr.lt
  have hOb : ∀ j, j < cap → W1.cell? ⟨b, j, none⟩ = some (f j) := fun j hj => by
    have h1 : w.drew.drew.cell? ⟨b, j, none⟩ = some (f j) := rowIs_cell hr hj
    rw [hW1, World.cell?_alloc_past (w := w.drew.drew) _ b j hbw]; exact h1
  have hcpA : ∀ ty dl dc, m ≤ dl → (Builtin.copy_ #[81, 81] ty #[.slice (some ⟨w.heap.size, i, none⟩) dl dc, .slice (some ⟨vb, 0, none⟩) m vc]).run Try.prog W1 = .ok (goInt m) (W1.setCells w.heap.size i vs) := fun ty dl dc hdl => by
    have h := run_cp hr0 i dl dc ⟨vb, 0, none⟩ m vc vs (by rw [hvl]; exact (Nat.min_eq_left hdl).symm) (by omega) (fun j v hj => by
      rw [Addr.add_lit, hW1, World.cell?_alloc_past (w := w.drew.drew) _ vb _ hvw]; exact hvs j v hj) hone ty
    rw [hvl] at h
    exact h
  obtain ⟨W2, hW2⟩ : ∃ W2, W2 = W1.setCells w.heap.size i vs := ⟨_, rfl⟩
  have hr2 := rowIs_setCells vs i W1 gf hr0
  rw [← hW2] at hcpA hr2
  have hdl : (newsOf f (i + 1 + p) i).length = p := by rw [newsOf_len]; omega
  have hcpB : ∀ ty dc sc, (Builtin.copy_ #[81, 81] ty #[.slice (some ⟨w.heap.size, i + m, none⟩) p dc, .slice (some ⟨b, i + 1, none⟩) p sc]).run Try.prog W2.drew = .ok (goInt p) (W2.drew.setCells w.heap.size (i + m) (newsOf f (i + 1 + p) i)) := fun ty dc sc => by
    have h := run_cp (W := W2.drew) hr2 (i + m) p dc ⟨b, i + 1, none⟩ p sc (newsOf f (i + 1 + p) i) (by rw [hdl]; exact (Nat.min_self p).symm) (by rw [hdl]; omega) (fun j v hj => by
      have hjl := (List.getElem?_eq_some_iff.1 hj).1
      rw [hdl] at hjl
      have h1 : W2.drew.cell? ⟨b, i + 1 + j, none⟩ = some (f (i + 1 + j)) := by
        show W2.cell? _ = _
        rw [hW2, cell_setCells_ne (by omega)]
        exact hOb _ (by omega)
      rw [Addr.add_lit, h1, ← hj]
      simp [newsOf, show j < p by omega]) (newsOf_one honf) ty
    rw [hdl] at h
    exact h
  have hfin : RepPost w b f vs (i + 1 + p) i m (.returned (.slice (some ⟨w.heap.size, 0, none⟩) (i + m + p) G)) (W2.drew.setCells w.heap.size (i + m) (newsOf f (i + 1 + p) i)) := by
    have hg : w.grownBy (W2.drew.setCells w.heap.size (i + m) (newsOf f (i + 1 + p) i)) (some b) := by
      have h1 : w.grownBy W1 none := by rw [hW1]; exact grownBy_trans (grown_drew' w none) (grownBy_trans (grown_drew' _ none) (World.grownBy_alloc _ _ _))
      have h2 : W1.grownBy (W2.drew.setCells w.heap.size (i + m) (newsOf f (i + 1 + p) i)) (some w.heap.size) := by rw [hW2]; exact grownBy_trans (grownBy_setCells _ vs i W1) (grownBy_trans (grown_drew' _ _) (grownBy_setCells _ _ _ _))
      refine ⟨h2.os.trans h1.os, h2.tape.trans h1.tape, h2.output.trans h1.output, Nat.le_trans h1.size h2.size, fun k hk _ => ?_⟩
      rw [h2.block k (Nat.lt_of_lt_of_le hk h1.size) (by simp; omega), h1.block k hk (by simp)]
    have hr3 := rowIs_setCells (newsOf f (i + 1 + p) i) (i + m) W2.drew _ hr2
    refine ⟨w.heap.size, G, by rw [show i + 1 + p - 1 + m = i + m + p by omega], hr3.lt, fun j hj => ?_, hg, .inr (Nat.le_refl _)⟩
    rw [rowIs_cell hr3 (by omega)]
    congr 1
    unfold repF
    rw [hdl]
    by_cases h1 : j < i
    · rw [if_neg (by omega), if_neg (by omega), if_pos h1, hgf]
      simp [hRf j h1]
    · by_cases h2 : j < i + m
      · rw [if_neg (by omega), if_pos (by omega), if_neg h1, if_pos h2]
      · rw [if_pos (by omega), if_neg h1, if_neg h2]
        simp [newsOf, show j - (i + m) < p by omega, show i + 1 + (j - (i + m)) = j + 1 - m by omega]
  have Hfin := Lib.hid hfin
  have Hrz := Lib.hid hrz
  have HcpA := Lib.hid hcpA
  have HcpB := Lib.hid hcpB
  have hq1 : (0 : Int) ≤ (i : Int) := by omega
  have hq2 : (i : Int) ≤ (i : Int) + 1 := by omega
  have hq4 : (i : Int) + 1 ≤ (cap : Int) := by omega
  have hq6 : (i : Int) ≤ (cap : Int) := by omega
  have hq7 : ((i : Int) == (i : Int) + 1) = false := by simp; omega
  have hq8 : (0 : Int) ≤ (i : Int) + 1 := by omega
  have hq9 : ¬ (p = 0) := by omega
  have hqa : (cap : Int) < (i : Int) + (m : Int) + (p : Int) := by omega
  have hqc : ¬ (G = i + m) := by omega
  have hqd : ¬ (G = i) := by omega
  have hqe : ¬ (cap = i + 1) := by omega
  have hw1 : IntKind.i64.wrap ((i : Int) + (m : Int)) = (i : Int) + (m : Int) := by rw [IntKind.wrap_i64]; omega
  have hw2 : (0 : Int) ≤ (i : Int) + (m : Int) := by omega
  have hw3 : (i : Int) + (m : Int) ≤ (i : Int) + (m : Int) + (p : Int) := by omega
  have hw4 : (i : Int) + 1 ≤ (i : Int) + 1 + (p : Int) := by omega
  have hw5 : (i : Int) + (m : Int) + (p : Int) - (i : Int) = (m : Int) + (p : Int) := by omega
  have hw6 : IntKind.i64.wrap ((m : Int) + (p : Int)) = (m : Int) + (p : Int) := by rw [IntKind.wrap_i64]; omega
  have htn : ((i : Int) + (m : Int)).toNat = i + m := by omega
  have htn1 : ((i : Int) + 1).toNat = i + 1 := by omega
  obtain ⟨gb, hgb⟩ : ∃ gb, gb = w.heap.size := ⟨_, rfl⟩
  rw [← hgb] at Hrz HcpA HcpB Hfin
  clear hr hfin hvs hrz hcpA hcpB hr0 hr2 hW1 hW2 hOb hRf hRs hROW hgf hold hcs hcl hG honf hone hvl hik hgb hbw hvw
  go_enter Try.func77, Try.ntmps77
  go_wp2_with fail
  go_region
  go_wp2_with (first
    | (at_builtin; refine Lib.wpList_append_run _ rfl _ _ _ _ rfl _ _ rfl rfl _ _ (Hrz.out _) ?_)
    | (with_reducible refine wpList_copy_runI (o := ⟨some 72, _, _, _, _, _⟩) _ rfl (.tmp 70) (.tmp 71) 81 81 rfl (.slice (some ⟨gb, i, none⟩) (i + m + p - i) (G - i)) (.slice (some ⟨vb, 0, none⟩) m vc) rfl rfl (HcpA.out _ (i + m + p - i) (G - i) (by omega)) ?_))
  go_region_law (refine step_copy_runI rfl (.tmp 78) (.tmp 81) 81 81 rfl (.slice (some ⟨gb, i + m, none⟩) p (G - (i + m))) (.slice (some ⟨b, i + 1, none⟩) p (cap - (i + 1))) (by simp [Act.eval, Act.put] <;> omega) (by simp [Act.eval, Act.put] <;> omega) (HcpB.out _ _ _) ?_)
  go_wp2_with fail
  go_ret
  exact Hfin.out

/-- A row of its own, told by its cells. -/
theorem own_rowIs {w : World} {B n : Nat} {g c : Nat} {xs : List Value} (h : w.ownsRow B 68 1 (.slice (some ⟨g, 0, none⟩) n c) n xs) :
    ∃ f : Nat → Value, w.rowIs g 68 c f ∧ n ≤ c ∧ c ≤ maxLen ∧ (∀ j, j < n → xs[j]? = some (f j)) := by
  obtain ⟨h1, h2⟩ := h
  rcases h2 with ⟨h3, _⟩ | ⟨g', cap, cur, h3, h4, h5, h6, h7, h8, h9⟩
  · cases h3
  · simp only [Value.slice.injEq, Option.some.injEq, Addr.mk.injEq, and_true, true_and] at h3
    obtain ⟨rfl, rfl⟩ := h3
    refine ⟨fun j => cur[j]?.getD default, ⟨cur, h5, by omega, fun j hj => ?_⟩, h6, h7, fun j hj => ?_⟩
    · simp [show j < cur.size by omega]
    · rw [← h9, List.getElem?_take, if_pos (by omega), Array.getElem?_toList]
      simp [show j < cur.size by omega]

/-- All ways. -/
theorem replaceP_any (b n cap i vb m : Nat) (f : Nat → Value) (x : Value) (vs : List Value) (w : World) (hr : w.rowIs b 68 cap f) (hin : i < n) (hnc : n ≤ cap) (hcap : cap ≤ 9223372036854775807) (hn6 : n ≤ 1000000) (hm : 1 ≤ m) (hm1 : m ≤ 1000)
    (hvs : vs = Rp m [x]) (hone : x.oneCell' = true) (honf : ∀ j, j < n → (f j).oneCell' = true) (hvo : w.heap[vb]? = some (.cells vs.toArray 68 (0, 0))) (hvb : vb ≠ b) :
    Calls Try.prog 77 #[.slice (some ⟨b, 0, none⟩) n cap, .int .i64 i, .int .i64 ((i : Int) + 1), .slice (some ⟨vb, 0, none⟩) m m] w (RepPost w b f vs n i m) := by
  have hvl : vs.length = m := by rw [hvs, Rp_len]; simp
  have hone' : ∀ u ∈ vs, u.oneCell' = true := fun u hu => by
    rw [hvs] at hu
    have := Rp_mem hu
    simp only [List.mem_singleton] at this
    rw [this]; exact hone
  have hcell : ∀ j v, vs[j]? = some v → w.cell? ⟨vb, 0 + j, none⟩ = some v := fun j v hj => by
    rw [Nat.zero_add, Joins.cell_of_block hvo]
    simpa using hj
  have hvw : vb < w.heap.size := (Array.getElem?_eq_some_iff.1 hvo).1
  rcases Nat.lt_or_ge (i + 1) n with h1 | h1
  · rcases Nat.lt_or_ge 1 m with h2 | h2
    · rcases Nat.lt_or_ge cap (n - 1 + m) with h3 | h3
      · exact repP_new b n cap i vb m m f vs w hr h1 hnc hcap hn6 h2 hm1 hvl hone' honf hcell hvw h3
      · obtain ⟨c, hb1, hb2, hb3⟩ := hr
        have hr' : w.rowIs b 68 cap f := ⟨c, hb1, hb2, hb3⟩
        exact repP_shift b n cap i vb m m f vs w hr' h1 hnc hcap hn6 h2 hm1 hvl hone' honf hcell hvb 68 68 m cap (by simp [World.shape?, hvo, hvl]) (by omega) (by simp [World.shape?, hb1, hb2]) (rowIs_thaw hr') (rowIs_thaw hr') h3
    · obtain rfl : m = 1 := by omega
      have hv1 : vs = [x] := by rw [hvs]; rfl
      subst hv1
      exact repP_one b n cap i vb 1 f x w hr h1 hnc hcap hn6 hone honf (hcell 0 x rfl)
  · obtain rfl : n = i + 1 := by omega
    rcases Nat.lt_or_ge cap (i + m) with h3 | h3
    · exact repP_grow b cap i vb m m f vs w hr hnc hcap hn6 hm hm1 hvl hone' hcell h3
    · exact repP_room b cap i vb m m f vs w hr hnc hcap hn6 hm hm1 hvl hone' hcell h3

end Go.Proofs.Ytdcgcohfbcdnnaa

/- Relations of pairs: the mathematics, and the pairs of two sets by the program. -/
import Derived.Test.YtagdeifalkenhaaDoorRelD
namespace Go.Proofs.YtagdeifalkenhaaDoor
set_option maxRecDepth 100000
open Go.RowKit Go.Shelf

attribute [local go_sem] Oper.semAt_some

/-- All pairs of a point of a list and a point of a set, which is of m points. -/
def pws (t m : Nat) (l : List Nat) : Nat := l.foldl (fun a i => a ||| t * 2 ^ (i * m)) 0
theorem pws_snoc (t m : Nat) (l : List Nat) (k : Nat) : pws t m (l ++ [k]) = pws t m l ||| t * 2 ^ (k * m) := by rw [pws, List.foldl_append]; rfl
theorem pws_bit0 (t m q : Nat) (l : List Nat) (a : Nat) : (l.foldl (fun a i => a ||| t * 2 ^ (i * m)) a).testBit q = true ↔ a.testBit q = true ∨ ∃ i ∈ l, (t * 2 ^ (i * m)).testBit q = true := by
  induction l generalizing a with
  | nil => simp
  | cons x l ih =>
    rw [List.foldl_cons, ih, Nat.testBit_or, Bool.or_eq_true]
    simp only [List.mem_cons, exists_eq_or_imp]
    exact or_assoc
theorem pws_bit (t m q : Nat) (l : List Nat) : (pws t m l).testBit q = true ↔ ∃ i ∈ l, (t * 2 ^ (i * m)).testBit q = true := by
  rw [pws, pws_bit0]
  simp
theorem shift_bit {t m : Nat} (i q : Nat) (hm : 1 ≤ m) (ht : t < 2 ^ m) : (t * 2 ^ (i * m)).testBit q = true ↔ q / m = i ∧ t.testBit (q % m) = true := by
  rw [Nat.testBit_mul_two_pow, Bool.and_eq_true, decide_eq_true_eq]
  have hq := Nat.div_add_mod q m
  have hr := Nat.mod_lt q hm
  constructor
  · rintro ⟨h1, h2⟩
    have h3 : q - i * m < m := bit_lt ht h2
    have h4 : q / m = i := by
      have e : q = (q - i * m) + m * i := by rw [Nat.mul_comm m i]; omega
      rw [e, Nat.add_mul_div_left _ _ hm, Nat.div_eq_of_lt h3]; omega
    have h5 : q % m = q - i * m := by
      have e : m * (q / m) = i * m := by rw [h4, Nat.mul_comm]
      omega
    exact ⟨h4, by rw [h5]; exact h2⟩
  · rintro ⟨h1, h2⟩
    have e : m * (q / m) = i * m := by rw [h1, Nat.mul_comm]
    have h5 : q - i * m = q % m := by omega
    exact ⟨by omega, by rw [h5]; exact h2⟩
theorem pws_lt {t m n : Nat} {l : List Nat} (hm : 1 ≤ m) (ht : t < 2 ^ m) (hl : ∀ k ∈ l, k < n) : pws t m l < 2 ^ (n * m) := by
  refine Nat.lt_pow_two_of_testBit _ (fun q hq => ?_)
  refine Bool.eq_false_iff.2 (fun h => ?_)
  obtain ⟨i, h1, h2⟩ := (pws_bit t m q l).1 h
  have h3 := ((shift_bit i q hm ht).1 h2).1
  have h4 := hl i h1
  have h5 : q / m < n := by omega
  have := (Nat.div_lt_iff_lt_mul hm).1 h5
  omega
def pw (s t m : Nat) : Nat := pws t m (pts s)
theorem pw_bit {s t m : Nat} (hs : s < 4096) (hm : 1 ≤ m) (ht : t < 2 ^ m) (q : Nat) : (pw s t m).testBit q = (s.testBit (q / m) && t.testBit (q % m)) := by
  refine Bool.eq_iff_iff.2 ?_
  rw [pw, pws_bit, Bool.and_eq_true]
  constructor
  · rintro ⟨i, h1, h2⟩
    obtain ⟨rfl, h4⟩ := (shift_bit i q hm ht).1 h2
    exact ⟨(mem_pts hs).1 h1, h4⟩
  · rintro ⟨h1, h2⟩
    exact ⟨q / m, (mem_pts hs).2 h1, (shift_bit _ q hm ht).2 ⟨rfl, h2⟩⟩
theorem pw_lt {s t m n : Nat} (hn : n ≤ 12) (hs : s < 2 ^ n) (hm : 1 ≤ m) (ht : t < 2 ^ m) : pw s t m < 2 ^ (n * m) :=
  pws_lt hm ht (fun _ hk => bit_lt hs ((mem_pts (Nat.lt_of_lt_of_le hs (two_le hn))).1 hk))

/-- The set of the pairs to which a pair leads. -/
def pr (a b : List Int) (m i k : Nat) : Nat := pw (rw' a i) (2 ^ m - 1) m ||| pw (2 ^ i) (rw' b k) m
theorem two_lt' {m : Nat} : 2 ^ m - 1 < 2 ^ m := by have := pow_pos' m; omega
theorem pr_bit {a b : List Int} (ha : RelOk a) (hb : RelOk b) {i : Nat} (k : Nat) (hi : i < a.length) (q : Nat) :
    (pr a b b.length i k).testBit q = ((rw' a i).testBit (q / b.length) || (decide (i = q / b.length) && (rw' b k).testBit (q % b.length))) := by
  have hm : 1 ≤ b.length := hb.1.1
  have h12 := ha.1.2
  have h2 : 2 ^ i < 4096 := by
    have : 2 ^ i < 2 ^ 12 := Nat.pow_lt_pow_right (by decide) (by omega)
    exact this
  rw [pr, Nat.testBit_or, pw_bit (ha.row_lt i) hm two_lt', pw_bit h2 hm (hb.row k), full_bit, Nat.testBit_two_pow, decide_eq_true (Nat.mod_lt q hm), Bool.and_true]
theorem pr_lt {a b : List Int} (ha : RelOk a) (hb : RelOk b) {i : Nat} (k : Nat) (hi : i < a.length) : pr a b b.length i k < 2 ^ (a.length * b.length) :=
  Nat.or_lt_two_pow (pw_lt ha.1.2 (ha.row i) hb.1.1 two_lt') (pw_lt ha.1.2 (Nat.pow_lt_pow_right (by decide) hi) hb.1.1 (hb.row k))
/-- The first pairs. -/
def prp (a b : List Int) (c : Nat) : List Int := (List.range c).map fun p => (pr a b b.length (p / b.length) (p % b.length) : Int)
theorem prp_len (a b : List Int) (c : Nat) : (prp a b c).length = c := by simp [prp]
theorem prp_snoc (a b : List Int) (c : Nat) : prp a b (c + 1) = prp a b c ++ [(pr a b b.length (c / b.length) (c % b.length) : Int)] := by
  rw [prp, List.range_succ, List.map_append]; rfl
theorem prp_at (a b : List Int) (i k : Nat) (hk : k < b.length) : prp a b (i * b.length + k + 1) = prp a b (i * b.length + k) ++ [(pr a b b.length i k : Int)] := by
  have h1 : (i * b.length + k) / b.length = i := by
    rw [Nat.mul_comm, Nat.mul_add_div (by omega), Nat.div_eq_of_lt hk]; rfl
  have h2 : (i * b.length + k) % b.length = k := by
    rw [Nat.mul_comm, Nat.mul_add_mod, Nat.mod_eq_of_lt hk]
  rw [prp_snoc, h1, h2]
noncomputable def prs (a b : List Int) : List Int := if relB a = true ∧ relB b = true ∧ a.length * b.length ≤ 12 then prp a b (a.length * b.length) else []
theorem prs_len (a b : List Int) : (prs a b).length ≤ 1000 := by
  unfold prs
  split
  · rename_i h; rw [prp_len]; omega
  · simp
theorem mod_next (x q : Nat) : x % 2 ^ (q + 1) = if x.testBit q = true then x % 2 ^ q + 2 ^ q else x % 2 ^ q := by
  have h0 : (x % 2 ^ q).testBit q = false := by rw [Nat.testBit_mod_two_pow]; simp
  split
  · rename_i h
    rw [or_bit_add h0]
    refine set_ext (fun j => ?_)
    rw [Nat.testBit_or, Nat.testBit_mod_two_pow, Nat.testBit_mod_two_pow, Nat.testBit_two_pow]
    by_cases hj : j = q
    · subst hj; simp [h]
    · have h1 : decide (j < q + 1) = decide (j < q) := by rw [decide_eq_decide]; omega
      have h2 : decide (q = j) = false := decide_eq_false (fun e => hj e.symm)
      rw [h1, h2, Bool.or_false]
  · rename_i h
    refine set_ext (fun j => ?_)
    rw [Nat.testBit_mod_two_pow, Nat.testBit_mod_two_pow]
    by_cases hj : j = q
    · subst hj; simp at h; simp [h]
    · have h1 : decide (j < q + 1) = decide (j < q) := by rw [decide_eq_decide]; omega
      rw [h1]

theorem pairs_out {W : World} {n : Nat} {tmps : Array Value} {v : Value} (ht : tmps[6]?.getD undef = v) {R : Ending → World → Prop} (hR : R (.returned v) W) :
    LeavesInM Fence.wide n Tryd.prog Tryd.f49 tmps R [] .returning W := by
  refine ⟨_, ?_, hR⟩
  simp [results, Tryd.f49, go_sem, ht]
def PwI (w : World) (t m n : Nat) (pre : List (Pt n)) (W : World) : Prop :=
  Boxed W w.heap.size 3 (.int .i64 t) ∧ Boxed W (w.heap.size + 1) 3 (.int .i64 m) ∧ Boxed W (w.heap.size + 1 + 1) 3 (.int .i64 (pws t m (pre.map (·.1)) : Nat)) ∧ Below w.heap.size w W

set_option maxRecDepth 100000 in
set_option maxHeartbeats 2000000 in
theorem pairsWith_any (s t m n : Nat) (w : World) (hs : s < 2 ^ n) (hm : 1 ≤ m) (ht : t < 2 ^ m) (hnm : n * m ≤ 12) (hT : Tab w) :
    Calls Tryd.prog 49 #[.int .i64 s, .int .i64 t, .int .i64 m] w fun e w' => e = .returned (.int .i64 (pw s t m : Nat)) ∧ Below w.heap.size w w' := by
  have hn12 : n ≤ 12 := Nat.le_trans (Nat.le_mul_of_pos_right n hm) hnm
  have hm12 : n = 0 ∨ m ≤ 12 := by
    rcases Nat.eq_zero_or_pos n with h | h
    · exact .inl h
    · exact .inr (Nat.le_trans (Nat.le_mul_of_pos_left m h) hnm)
  obtain ⟨ps, hps⟩ := pts_pt hn12 hs
  have htl := hT.lt
  have hst : pw s t m = pws t m (ps.map (·.1)) := by rw [hps]; rfl
  rw [hst]
  have HT := Lib.hid hT
  have Hm := Lib.hid hm
  have Ht := Lib.hid ht
  have Hnm := Lib.hid hnm
  have Hm12 := Lib.hid hm12
  clear hT hst hm ht hnm hm12
  refine (callsIn_wide (n := 20)).1 ?_
  refine callsIn_of_wp_marks Tryd.func49 rfl trivial ?_ rfl
  simp only [Tryd.ntmps49, List.size_toArray, List.length_cons, List.length_nil, Nat.reduceAdd, Nat.reduceSub, Array.replicate_succ, Array.replicate_zero, List.push_toArray, List.append_toArray, List.nil_append, List.cons_append]
  gi_wp2
  refine ⟨trivial, (callsIn_wide.2 (pointsIn_any s _)).mono ?_⟩
  rintro ee ws ⟨rfl, rfl⟩
  gi_wp2
  obtain ⟨W0, hW0⟩ : ∃ W0, W0 = (((w.alloc (.cells #[.int .i64 t] 3)).alloc (.cells #[.int .i64 m] 3)).alloc (.cells #[.int .i64 0] 3)).alloc (.cells #[.int .i64 s] 3) := ⟨_, rfl⟩
  rw [← hW0]
  have hb0 : Below w.heap.size w W0 := by rw [hW0]; exact ((((Below.refl _ _).alloc (Nat.le_refl _) _).alloc (by simp) _).alloc (by simp; omega) _).alloc (by simp; omega) _
  have hs0 : W0.heap.size = w.heap.size + 4 := by rw [hW0]; simp
  have e2 : Boxed W0 w.heap.size 3 (.int .i64 t) := by rw [hW0]; exact (((Boxed.new w _ _).alloc _).alloc _).alloc _
  have e3 : Boxed W0 (w.heap.size + 1) 3 (.int .i64 m) := by
    have h9 := Boxed.new (w.alloc (.cells #[.int .i64 t] 3)) 3 (.int .i64 m)
    rw [World.size_alloc] at h9
    rw [hW0]; exact (h9.alloc _).alloc _
  have e5 : Boxed W0 (w.heap.size + 1 + 1) 3 (.int .i64 0) := by
    have h9 := Boxed.new ((w.alloc (.cells #[.int .i64 t] 3)).alloc (.cells #[.int .i64 m] 3)) 3 (.int .i64 0)
    rw [World.size_alloc, World.size_alloc] at h9
    rw [hW0]; exact h9.alloc _
  have es : Boxed W0 (w.heap.size + 1 + 1 + 1) 3 (.int .i64 s) := by
    have h9 := Boxed.new (((w.alloc (.cells #[.int .i64 t] 3)).alloc (.cells #[.int .i64 m] 3)).alloc (.cells #[.int .i64 0] 3)) 3 (.int .i64 s)
    rw [World.size_alloc, World.size_alloc, World.size_alloc] at h9
    rw [hW0]; exact h9
  have hst := points1_stops 19 n s (w.heap.size + 1 + 1 + 1) w.heap.size ps W0 hn12 hs hps (by omega) htl (HT.out.below hb0 htl) (by omega) es.cell
  have h00 : PwI w t m n [] W0 := ⟨e2, e3, e5, hb0⟩
  clear hW0 e2 e3 e5 es hps
  refine wpIn_rangeFunc_ownG rfl (by omega) (gf := 55) (lb := #[.pointer (some ⟨w.heap.size + 1 + 1 + 1, 0, none⟩)]) rfl trivial (enters_of Tryd.func55 (by kernel_rfl) rfl)
    hst Below.trans (belowPut (by omega)) (Below.refl _ _) (fun _ => rfl) (PwI w t m n) (fun _ _ _ => False) ?hI ?hIx h00
    (fun x => { tmps := #[.int .i64 s, .int .i64 t, .int .i64 m, undef, .pointer (some ⟨w.heap.size, 0, none⟩), .pointer (some ⟨w.heap.size + 1, 0, none⟩), .int .i64 0, .pointer (some ⟨w.heap.size + 1 + 1, 0, none⟩), .int .i64 x.1, .int .i64 s, .func (.func 55) #[] #[.pointer (some ⟨w.heap.size + 1 + 1 + 1, 0, none⟩)], .int .i64 x.1, undef, undef, undef, undef, undef, undef, undef, undef], defers := [] }) ?assign ?body ?done ?stop
  case hI =>
    rintro s' A C row ⟨hx1, hx2, hx3, hb⟩ hg hr
    have hne : ∀ k cs t f, A.heap[k]? = some (.cells cs t f) → row ≠ some k := fun k cs t f hk he => by
      obtain ⟨_, o, ho, hc⟩ := hr k he
      rw [hk] at ho
      cases ho
      cases hc
    exact ⟨hx1.kept hg (fun he => hne _ _ _ _ hx1 he.symm), hx2.kept hg (fun he => hne _ _ _ _ hx2 he.symm), hx3.kept hg (fun he => hne _ _ _ _ hx3 he.symm), hb.grown hg hb.size (fun k e => by have := (hr k e).1; omega)⟩
  case hIx => exact fun _ _ _ _ _ h _ _ => h
  case assign =>
    intro l' x W' K hK
    gi_wp2
    exact hK
  case body =>
    rintro l pre x Wr ⟨hx1, hx2, hx3, hb⟩ _
    have hxn : x.1 < n := x.2
    have hm12 : m ≤ 12 := by rcases Hm12.out with h9 | h9 <;> omega
    have hmul : (x.1 + 1) * m ≤ 12 := Nat.le_trans (Nat.mul_le_mul_right m hxn) Hnm.out
    rw [Nat.succ_mul] at hmul
    have z1 := hx1.cell
    have z2 := hx2.cell
    have z3 := hx3.cell
    have f3 := hx3.frozen
    have ht4 : t < 4096 := Nat.lt_of_lt_of_le Ht.out (two_le hm12)
    have hu4 : t * 2 ^ (x.1 * m) < 4096 := by
      have h8 : t * 2 ^ (x.1 * m) < 2 ^ m * 2 ^ (x.1 * m) := Nat.mul_lt_mul_of_pos_right Ht.out (pow_pos' _)
      rw [← Nat.pow_add] at h8
      exact Nat.lt_of_lt_of_le h8 (two_le (by omega))
    have hr2 : pws t m (pre.map (·.1)) < 4096 := Nat.lt_of_lt_of_le (pws_lt (n := n) Hm.out Ht.out (fun k hk => by
      obtain ⟨x', _, rfl⟩ := List.mem_map.1 hk
      exact x'.2)) (two_le Hnm.out)
    have ho := or_i64 (pws t m (pre.map (·.1))) (t * 2 ^ (x.1 * m)) (by omega) (by omega)
    have hsn : pws t m ((pre ++ [x]).map (·.1)) = pws t m (pre.map (·.1)) ||| t * 2 ^ (x.1 * m) := by rw [List.map_append, List.map_cons, List.map_nil, pws_snoc]
    have hw1 : IntKind.i64.wrap ((x.1 : Int) * (m : Int)) = ((x.1 * m : Nat) : Int) := by rw [← Int.natCast_mul]; exact wrap_nat _ (by omega)
    have hw2 : IntKind.i64.wrap ((t : Int) * 2 ^ (x.1 * m)) = ((t * 2 ^ (x.1 * m) : Nat) : Int) := by
      have e : ((t : Int) * 2 ^ (x.1 * m)) = ((t * 2 ^ (x.1 * m) : Nat) : Int) := by rw [Int.natCast_mul, pow_cast]
      rw [e]; exact wrap_nat _ (by omega)
    obtain ⟨d, hd⟩ : ∃ d, d = x.1 * m := ⟨_, rfl⟩
    rw [← hd] at ho hsn hw1 hw2 hu4 hmul
    obtain ⟨u, hu⟩ : ∃ u, u = t * 2 ^ d := ⟨_, rfl⟩
    rw [← hu] at ho hsn hw2 hu4
    obtain ⟨a, ha⟩ : ∃ a, a = pws t m (pre.map (·.1)) := ⟨_, rfl⟩
    rw [← ha] at z3 ho hsn hr2
    obtain ⟨o, hoo⟩ : ∃ o, o = a ||| u := ⟨_, rfl⟩
    rw [← hoo] at ho hsn
    have HX1 := Lib.hid hx1
    have HX2 := Lib.hid hx2
    have HX3 := Lib.hid hx3
    have HB := Lib.hid hb
    have Hsn := Lib.hid hsn
    clear hx1 hx2 hx3 hb ha hoo hsn hd hu
    gi_wp2
    gi_region
    all_goals
      gi_wp2
      have hk := (KeepsOthers.setCell Wr ⟨w.heap.size + 1 + 1, 0, none⟩ (.int .i64 o)).from W0.heap.size
      have hbW : Below w.heap.size Wr (Wr.setCell ⟨w.heap.size + 1 + 1, 0, none⟩ (.int .i64 o)).drew := ((Below.refl _ _).setCell (p := ⟨w.heap.size + 1 + 1, 0, none⟩) (by simp; omega) _).drew
      refine ⟨⟨hk.size, hk.same⟩, hbW, HX1.out.other (by omega) _, HX2.out.other (by omega) _, ?_, HB.out.trans hbW⟩
      rw [Hsn.out]
      exact HX3.out.set _
  case done =>
    rintro D xs' Wd hD rfl ⟨hx1, hx2, hx3, hb⟩ hK
    have z2 := hx3.cell
    gi_wp2
    have g3 := grownBy_putObj' Wd D (.deferred none)
    refine ⟨by simp, .inl ⟨_, _, rfl, run_takeDeferred hK, ?_⟩⟩
    refine pairs_out rfl ⟨rfl, ?_⟩
    exact hb.grown g3 hb.size (fun k e => by cases e; omega)
  case stop => exact fun _ _ _ _ _ _ h _ => h.elim

end Go.Proofs.YtagdeifalkenhaaDoor

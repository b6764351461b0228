/- OrdFall of the program. -/
import Derived.Test.YtdcaefgbpnjjaaaFallB
import Derived.Test.YtdcaefgbpnjjaaaDownC
namespace Go.Proofs.Ytdcaefgbpnjjaaa
open Go.RowKit Go.Shelf

attribute [local go_sem] Oper.semAt_some

/-- The rows of numbers lie in new memory, from the block B on. -/
def RowsI (B : Nat) (w : World) (vs : List Value) (xss : List (List Int)) : Prop :=
  vs.length = xss.length ∧ ∀ (i : Nat) (xs : List Int), xss[i]? = some xs → ∃ g c, vs[i]? = some (.slice (some ⟨g, 0, none⟩) xs.length c) ∧ w.ownsRow B 3 1 (.slice (some ⟨g, 0, none⟩) xs.length c) xs.length (ints xs)
/-- The rows of these ordinals. -/
def RowsT (B : Nat) (w : World) (vs : List Value) (ts : List T) : Prop := RowsI B w vs (ts.map T.enc)
theorem own_block {w : World} {B n c g : Nat} {xs : List Value} (h : w.ownsRow B 3 1 (.slice (some ⟨g, 0, none⟩) n c) n xs) : B ≤ g ∧ ∃ cur, w.heap[g]? = some (.cells cur 3 (0, 0)) := by
  obtain ⟨_, ⟨h, _⟩ | ⟨g', cap, cur, he, hB, hc, _⟩⟩ := h
  · cases h
  · cases he
    exact ⟨hB, cur, hc⟩
theorem own_of_block {w w' : World} {B n c g : Nat} {xs : List Value} (h : w.ownsRow B 3 1 (.slice (some ⟨g, 0, none⟩) n c) n xs) (hb : w'.heap[g]? = w.heap[g]?) : w'.ownsRow B 3 1 (.slice (some ⟨g, 0, none⟩) n c) n xs := by
  obtain ⟨h1, ⟨h, _⟩ | ⟨g', cap, cur, he, hB, hc, hrest⟩⟩ := h
  · cases h
  · cases he
    exact ⟨h1, .inr ⟨g, c, cur, rfl, hB, hb.trans hc, hrest⟩⟩
theorem RowsI.nil (B : Nat) (w : World) : RowsI B w [] [] := ⟨rfl, fun i t h => by simp at h⟩
theorem RowsT.nil (B : Nat) (w : World) : RowsT B w [] [] := RowsI.nil B w
theorem RowsI.snoc {B : Nat} {w : World} {vs : List Value} {ts : List (List Int)} (h : RowsI B w vs ts) {g c : Nat} {t : List Int} (h1 : w.ownsRow B 3 1 (.slice (some ⟨g, 0, none⟩) t.length c) t.length (ints t)) :
    RowsI B w (vs ++ [.slice (some ⟨g, 0, none⟩) t.length c]) (ts ++ [t]) := by
  refine ⟨by simp [h.1], fun i u hu => ?_⟩
  rcases Nat.lt_or_ge i ts.length with hi | hi
  · rw [List.getElem?_append_left hi] at hu
    rw [List.getElem?_append_left (by rw [h.1]; exact hi)]
    exact h.2 i u hu
  · rw [List.getElem?_append_right hi] at hu
    rw [List.getElem?_append_right (by rw [h.1]; exact hi)]
    obtain ⟨hlt, hu'⟩ := List.getElem?_eq_some_iff.1 hu
    have hi0 : i - ts.length = 0 := by simp at hlt; omega
    rw [hi0] at hu
    simp at hu
    subst hu
    exact ⟨g, c, by rw [h.1, hi0]; rfl, h1⟩
theorem RowsT.snoc {B : Nat} {w : World} {vs : List Value} {ts : List T} (h : RowsT B w vs ts) {g c : Nat} {t : T} (h1 : w.ownsRow B 3 1 (.slice (some ⟨g, 0, none⟩) t.enc.length c) t.enc.length (ints t.enc)) :
    RowsT B w (vs ++ [.slice (some ⟨g, 0, none⟩) t.enc.length c]) (ts ++ [t]) := by
  have := RowsI.snoc h h1
  rw [RowsT, List.map_append]
  exact this
theorem RowsI.kept {B : Nat} {w w' : World} {vs : List Value} {ts : List (List Int)} (h : RowsI B w vs ts) (hk : ∀ g cur, B ≤ g → w.heap[g]? = some (.cells cur 3 (0, 0)) → w'.heap[g]? = w.heap[g]?) : RowsI B w' vs ts := by
  refine ⟨h.1, fun i t ht => ?_⟩
  obtain ⟨g, c, h1, h2⟩ := h.2 i t ht
  obtain ⟨hB, cur, hc⟩ := own_block h2
  exact ⟨g, c, h1, own_of_block h2 (hk g cur hB hc)⟩
theorem RowsT.kept {B : Nat} {w w' : World} {vs : List Value} {ts : List T} (h : RowsT B w vs ts) (hk : ∀ g cur, B ≤ g → w.heap[g]? = some (.cells cur 3 (0, 0)) → w'.heap[g]? = w.heap[g]?) : RowsT B w' vs ts := RowsI.kept h hk
theorem RowsT.le {B B' : Nat} {w : World} {vs : List Value} {ts : List T} (h : RowsT B w vs ts) (hB : B' ≤ B) : RowsT B' w vs ts :=
  ⟨h.1, fun i t ht => by
    obtain ⟨g, c, h1, h2⟩ := h.2 i t ht
    exact ⟨g, c, h1, Joins.ownsRow_le h2 hB⟩⟩

/-- The rows lie one behind the other, below the block U. -/
def Blocks (U : Nat) (vs : List Value) : Prop :=
  (∀ (i g n c : Nat), vs[i]? = some (.slice (some ⟨g, 0, none⟩) n c) → g < U) ∧ ∀ (i j g n c g' n' c' : Nat), i < j → vs[i]? = some (.slice (some ⟨g, 0, none⟩) n c) → vs[j]? = some (.slice (some ⟨g', 0, none⟩) n' c') → g < g'
theorem Blocks.nil (U : Nat) : Blocks U [] := ⟨fun i g n c h => by simp at h, fun i j g n c g' n' c' _ h => by simp at h⟩
theorem snoc_get {vs : List Value} {v u : Value} {i : Nat} (h : (vs ++ [v])[i]? = some u) : (i < vs.length ∧ vs[i]? = some u) ∨ (i = vs.length ∧ v = u) := by
  rcases Nat.lt_or_ge i vs.length with hi | hi
  · rw [List.getElem?_append_left hi] at h
    exact .inl ⟨hi, h⟩
  · rw [List.getElem?_append_right hi] at h
    obtain ⟨hlt, _⟩ := List.getElem?_eq_some_iff.1 h
    have hi0 : i - vs.length = 0 := by simp at hlt; omega
    rw [hi0] at h
    simp at h
    exact .inr ⟨by omega, h⟩
theorem Blocks.snoc {U U' g n c : Nat} {vs : List Value} (h : Blocks U vs) (h1 : U ≤ g) (h2 : g < U') : Blocks U' (vs ++ [.slice (some ⟨g, 0, none⟩) n c]) := by
  refine ⟨fun i g' n' c' hi => ?_, fun i j g1 n1 c1 g2 n2 c2 hij hi hj => ?_⟩
  · rcases snoc_get hi with ⟨_, h3⟩ | ⟨_, h3⟩
    · have := h.1 i g' n' c' h3; omega
    · cases h3; exact h2
  · rcases snoc_get hi with ⟨k1, h3⟩ | ⟨k1, h3⟩
    · rcases snoc_get hj with ⟨k2, h4⟩ | ⟨k2, h4⟩
      · exact h.2 i j g1 n1 c1 g2 n2 c2 hij h3 h4
      · cases h4
        have := h.1 i g1 n1 c1 h3; omega
    · rcases snoc_get hj with ⟨k2, h4⟩ | ⟨k2, h4⟩
      · omega
      · omega

def FallPost (w : World) (r : Option (List T)) (e : Ending) (w' : World) : Prop :=
  ∃ a n c vs, e = .returned (.tuple #[.slice a n c, .bool r.isSome]) ∧ n = (r.getD []).length ∧ w'.ownsRow w.heap.size 22 1 (.slice a n c) n vs ∧ RowsT w.heap.size w' vs (r.getD []) ∧ Below w.heap.size w w'
def FallPostI (w : World) (r : Option (List T)) (e : Ending) (w' : World) : Prop :=
  ∃ a n c vs, e = .returned (.tuple #[.slice a n c, .bool r.isSome]) ∧ n = (r.getD []).length ∧ w'.ownsRow w.heap.size 22 1 (.slice a n c) n vs ∧ RowsT w.heap.size w' vs (r.getD []) ∧ Below w.heap.size w w' ∧ ∃ U, Blocks U vs

theorem nums_of : ∀ {l : List Int}, (∀ v ∈ l, 0 ≤ v ∧ v ≤ 99) → ∃ p : List Num, l = nums p
  | [], _ => ⟨[], rfl⟩
  | v :: l, h => by
    obtain ⟨p, hp⟩ := nums_of (l := l) (fun x hx => h x (List.mem_cons_of_mem _ hx))
    exact ⟨⟨v, h v (List.mem_cons_self ..)⟩ :: p, congrArg (v :: ·) hp⟩

namespace T
theorem fall_nil' (u : T) : fall [] u = some [] := by
  cases u with
  | z => exact fall_z _
  | c a b d => exact fall_nil ..
theorem fall_done {t : T} {ns s : List Int} {u : T} {ls : List T} (h : SF t ns s) (hr : RunL t s u ls) : fall ns t = some ls := by
  obtain ⟨⟨rest, rfl⟩, h⟩ := h
  rw [hr.fall]
  rcases h with (⟨l, hl⟩ | ⟨s', v, u', l, rfl, h1, h2, h3⟩) | ⟨h, _⟩
  · obtain ⟨rfl, rfl⟩ := hr.unique hl
    rw [fall_z]; simp
  · exfalso
    generalize hs : s' ++ [v] = s2 at hr
    cases hr with
    | nil => simp at hs
    | snoc k1 k2 k3 =>
      obtain ⟨e1, e2⟩ := List.append_inj' hs rfl
      subst e1
      cases e2
      obtain ⟨rfl, _⟩ := k1.unique h1
      rw [h3] at k3; cases k3
  · have hr0 : rest = [] := by simpa using h.symm
    rw [hr0, fall_nil']; simp
theorem fall_stop {t : T} {ns s : List Int} (hp : s <+: ns) (h : ∃ s' v u l, s = s' ++ [v] ∧ RunL t s' u l ∧ u ≠ z ∧ vldB (u.step v).enc = false) : fall ns t = none := by
  obtain ⟨rest, rfl⟩ := hp
  obtain ⟨s', v, u, l, rfl, h1, h2, h3⟩ := h
  rw [List.append_assoc, h1.fall, List.singleton_append, fall_s v rest h2, if_neg (by rw [h3]; decide)]
  rfl
theorem fallP_good {t : T} {ns : List Int} (h1 : vldB t.enc = true) (h2 : ns.length ≤ 3000) (h3 : ∀ v ∈ ns, 0 ≤ v ∧ v ≤ 99) : fallP t.enc ns = fall ns t := by
  rw [fallP, if_pos ⟨h1, h2, h3⟩, of_enc]
theorem fallP_bad {xs ns : List Int} (h : vldB xs = false ∨ 3000 < ns.length ∨ ∃ v ∈ ns, ¬ (0 ≤ v ∧ v ≤ 99)) : fallP xs ns = none := by
  rw [fallP, if_neg]
  rintro ⟨h1, h2, h3⟩
  rcases h with h | h | ⟨v, hv, h⟩
  · rw [h] at h1; cases h1
  · omega
  · exact h (h3 v hv)
end T

/-- Between two rounds of OrdFall's loop. -/
def FlI (t : T) (w : World) (q s3 M : Nat) (s : List Int × Nat) (W : World) : Prop :=
  s.1.length ≤ M ∧ Boxed W w.heap.size 29 (.slice none 0 0) ∧ Boxed W (w.heap.size + 1) 4 (.bool false) ∧ Below w.heap.size w W ∧
    ∃ u l vs a n c, T.RunL t s.1 u l ∧ n = l.length ∧ Boxed W s3 29 (.slice a n c) ∧ W.ownsRow q 22 1 (.slice a n c) n vs ∧ RowsT q W vs l ∧ Blocks s.2 vs
def FlX (t : T) (w : World) (c : Code) (s : List Int × Nat) (W : World) : Prop :=
  c = .ret ∧ (∃ s' v u l, s.1 = s' ++ [v] ∧ T.RunL t s' u l ∧ u ≠ .z ∧ T.vldB (u.step v).enc = false) ∧ Boxed W w.heap.size 29 (.slice none 0 0) ∧ Boxed W (w.heap.size + 1) 4 (.bool false) ∧ Below w.heap.size w W

theorem not_row_of {A : World} {q g : Nat} {row : Option Nat} (hr : ∀ r, row = some r → r < q ∨ ∃ o : Obj, A.heap[r]? = some o ∧ o.isCells = false) (hq : q ≤ g) {cur : Array Value} {e : TypeId} {fr : Nat × Nat} (hc : A.heap[g]? = some (.cells cur e fr)) : some g ≠ row := by
  intro h
  rcases hr g h.symm with k | ⟨o, ho, hc'⟩
  · omega
  · rw [hc] at ho
    cases ho
    cases hc'
theorem ownsRow_keptL {A C : World} {q : Nat} {e : TypeId} {size n : Nat} {v : Value} {xs : List Value} {row : Option Nat} (h : A.ownsRow q e size v n xs) (hg : A.grownBy C row) (hr : ∀ r, row = some r → r < q ∨ ∃ o : Obj, A.heap[r]? = some o ∧ o.isCells = false) :
    C.ownsRow q e size v n xs := by
  refine h.kept hg ?_
  rcases h.2 with ⟨rfl, _⟩ | ⟨g, cap, _, rfl, hgq, hgb, _⟩
  · exact .inl rfl
  · exact .inr (not_row_of hr hgq hgb)
theorem RowsT.keptL {A C : World} {q : Nat} {vs : List Value} {ts : List T} {row : Option Nat} (h : RowsT q A vs ts) (hg : A.grownBy C row) (hr : ∀ r, row = some r → r < q ∨ ∃ o : Obj, A.heap[r]? = some o ∧ o.isCells = false) : RowsT q C vs ts :=
  h.kept (fun _ _ hq hc => hg.block _ (Array.getElem?_eq_some_iff.1 hc).1 (not_row_of hr hq hc))

theorem KQ.refl (lo hi q : Nat) (ty : TypeId) (W : World) : KQ lo hi q ty W W := ⟨rfl, rfl, rfl, Nat.le_refl _, fun _ _ _ => rfl⟩
theorem KQ.setCell {lo hi q : Nat} {ty : TypeId} {W W' : World} (h : KQ lo hi q ty W W') (b : Nat) (v : Value) (hb : lo ≤ b ∧ b < hi) : KQ lo hi q ty W (W'.setCell ⟨b, 0, none⟩ v) :=
  ⟨h.os, h.tape, h.output, Nat.le_trans h.size (grownBy_setCell' _ _ _).size, fun k hk hf => ((grownBy_setCell' W' b v).block k (Nat.lt_of_lt_of_le hk h.size) (fun e => hf (.inl (by cases e; exact hb)))).trans (h.block k hk hf)⟩

/-- What the body of the loop does to the row of rows. -/
theorem fall_appended {W w5 : World} {q s3 n m : Nat} {v v' : Value} {vs ys : List Value} {tmp : Obj} {lo : Nat} (hlo : lo ≤ s3) (b8 : Boxed W s3 29 v) (hown : W.ownsRow q 22 1 v n vs) (hown' : w5.ownsRow q 22 1 v' m ys) (hg : (W.alloc tmp).grownBy w5 v.ownBlock) :
    KQ lo (s3 + 1) q 22 W (w5.setCell ⟨s3, 0, none⟩ v') ∧ Boxed (w5.setCell ⟨s3, 0, none⟩ v') s3 29 v' ∧ (w5.setCell ⟨s3, 0, none⟩ v').ownsRow q 22 1 v' m ys := by
  have hv1 : Boxed w5 s3 29 v := (b8.alloc tmp).kept hg (b8.not_row (by decide) hown)
  have hsz : (w5.setCell ⟨s3, 0, none⟩ v').heap.size = w5.heap.size := by simp [World.setCell]
  have hs5 := hg.size
  rw [World.size_alloc] at hs5
  refine ⟨⟨hg.os, hg.tape, hg.output, by omega, fun b hb hf => ?_⟩, hv1.set v', hown'.kept (grownBy_setCell' w5 s3 v') (.inr (hv1.not_row (by decide) hown').symm)⟩
  have hb3 : b ≠ s3 := fun e => hf (.inl ⟨by omega, by omega⟩)
  refine ((grownBy_setCell' w5 s3 v').block b (by omega) (fun e => hb3 (Option.some.inj e))).trans ((hg.block b (by rw [World.size_alloc]; omega) (fun e => ?_)).trans (Below.heap_alloc _ _ _ hb))
  rcases hown.2 with ⟨rfl, _⟩ | ⟨g, cap, cur, rfl, hgq, hgb, _⟩
  · cases e
  · cases e
    exact hf (.inr ⟨hgq, cur, _, hgb⟩)

theorem values_any (a : Option Addr) (n c : Nat) (w : World) :
    Calls Try.prog 42 #[.slice a n c] w fun e w' => e = .returned (.func (.func 60) #[] #[.pointer (some ⟨w.heap.size, 0, none⟩)]) ∧
      w' = w.alloc (.cells #[.slice a n c] 22) := by
  go_enter Try.func42, Try.ntmps42
  go_wp2
  go_ret
  exact ⟨rfl, rfl⟩

/-- The two results lie in cells. -/
theorem fall_out {W : World} {n : Nat} {tmps : Array Value} {c4 c5 : Nat} {a : Option Addr} {m c : Nat} {y : Bool} (ht4 : tmps[4]?.getD undef = .pointer (some ⟨c4, 0, none⟩)) (ht5 : tmps[5]?.getD undef = .pointer (some ⟨c5, 0, none⟩))
    (h4 : W.cell? ⟨c4, 0, none⟩ = some (.slice a m c)) (h5 : W.cell? ⟨c5, 0, none⟩ = some (.bool y)) {R : Ending → World → Prop} (hR : R (.returned (.tuple #[.slice a m c, .bool y])) W) :
    LeavesInM Fence.wide n Try.prog Try.f18 tmps R [] .returning W := by
  refine ⟨_, ?_, hR⟩
  simp [results, Try.f18, go_sem, ht4, ht5, h4, h5]

theorem fallPost_none {w W : World} (hb : Below w.heap.size w W) : FallPostI w none (.returned (.tuple #[.slice none 0 0, .bool false])) W :=
  ⟨none, 0, 0, [], rfl, rfl, World.ownsRow_nil _ _ _ _, RowsT.nil _ _, hb, 0, Blocks.nil 0⟩

set_option maxRecDepth 100000 in
set_option maxHeartbeats 4000000 in
theorem impl_OrdFall_bad (ao a2 : Option Addr) (len cap len2 cap2 : Nat) (xs ns : List Int) (w : World) (h : Sl w ao len cap xs) (h2 : Sl w a2 len2 cap2 ns) (hbad : T.vldB xs = false ∨ 3000 < len2) :
    Calls Try.prog 18 #[.slice ao len cap, .slice a2 len2 cap2] w (FallPostI w none) := by
  have hw2 : Below w.heap.size w ((w.alloc (.cells #[.slice none 0 0] 29)).alloc (.cells #[.bool false] 4)) := ((Below.refl _ _).alloc (Nat.le_refl _) _).alloc (by simp) _
  obtain ⟨w2, hww⟩ : ∃ w2, w2 = (w.alloc (.cells #[.slice none 0 0] 29)).alloc (.cells #[.bool false] 4) := ⟨_, rfl⟩
  have hs2 : w2.heap.size = w.heap.size + 2 := by rw [hww]; simp
  have hx4 : Boxed w2 w.heap.size 29 (.slice none 0 0) := by rw [hww]; exact (Boxed.new w _ _).alloc _
  have hx5 : Boxed w2 (w.heap.size + 1) 4 (.bool false) := by
    have h := Boxed.new (w.alloc (.cells #[.slice none 0 0] 29)) 4 (.bool false)
    rw [World.size_alloc] at h
    rw [hww]; exact h
  rw [← hww] at hw2
  have HWW := Lib.hid hww.symm
  have hln := h2.1
  have hm2 := h2.2.2.1
  have h9 : maxLen = 4611686018427387903 ∨ True := .inr trivial
  clear hww
  refine (callsIn_wide (n := 20)).1 ?_
  rcases vld_tf xs with h1 | h1
  · have k1 := Lib.hid (impl_valid ao len cap xs w2 (h.below hw2) h1)
    have hlt : 3000 < len2 := by
      rcases hbad with h | h
      · rw [h1] at h; cases h
      · exact h
    clear h h1 h2 hbad
    refine callsIn_of_wp_marks Try.func18 rfl trivial ?_ rfl
    simp only [Try.ntmps18, List.size_toArray, List.length_cons, List.length_nil, Nat.reduceAdd, Nat.reduceSub, Array.replicate_succ, Array.replicate_zero, List.push_toArray, List.append_toArray, List.nil_append, List.cons_append]
    gi_wp2
    rw [HWW.out]
    refine ⟨trivial, (callsIn_wide.2 k1.out).mono ?_⟩
    rintro ee w3 ⟨rfl, hb3⟩
    have hl4 : w.heap.size < w2.heap.size := by omega
    have hl5 : w.heap.size + 1 < w2.heap.size := by omega
    have z4 := (hb3.cell (p := ⟨w.heap.size, 0, none⟩) hl4).trans hx4.cell
    have z5 := (hb3.cell (p := ⟨w.heap.size + 1, 0, none⟩) hl5).trans hx5.cell
    have f4 : w3.frozen? ⟨w.heap.size, 0, none⟩ = false := (World.frozen?_of_block (hb3.block _ hl4)).trans hx4.frozen
    have f5 : w3.frozen? ⟨w.heap.size + 1, 0, none⟩ = false := (World.frozen?_of_block (hb3.block _ hl5)).trans hx5.frozen
    have Hb3 := Lib.hid (hw2.trans (hb3.mono hw2.size))
    clear hb3
    gi_wp2
    obtain ⟨y4, y5⟩ := two_set z4 z5 (.slice none 0 0) (.bool false)
    exact fall_out rfl rfl y4 y5 (fallPost_none (below_two Hb3.out _ _))
  · have k1 := Lib.hid (impl_valid ao len cap xs w2 (h.below hw2) h1)
    clear h h1 h2 hbad
    refine callsIn_of_wp_marks Try.func18 rfl trivial ?_ rfl
    simp only [Try.ntmps18, List.size_toArray, List.length_cons, List.length_nil, Nat.reduceAdd, Nat.reduceSub, Array.replicate_succ, Array.replicate_zero, List.push_toArray, List.append_toArray, List.nil_append, List.cons_append]
    gi_wp2
    rw [HWW.out]
    refine ⟨trivial, (callsIn_wide.2 k1.out).mono ?_⟩
    rintro ee w3 ⟨rfl, hb3⟩
    have hl4 : w.heap.size < w2.heap.size := by omega
    have hl5 : w.heap.size + 1 < w2.heap.size := by omega
    have z4 := (hb3.cell (p := ⟨w.heap.size, 0, none⟩) hl4).trans hx4.cell
    have z5 := (hb3.cell (p := ⟨w.heap.size + 1, 0, none⟩) hl5).trans hx5.cell
    have f4 : w3.frozen? ⟨w.heap.size, 0, none⟩ = false := (World.frozen?_of_block (hb3.block _ hl4)).trans hx4.frozen
    have f5 : w3.frozen? ⟨w.heap.size + 1, 0, none⟩ = false := (World.frozen?_of_block (hb3.block _ hl5)).trans hx5.frozen
    have Hb3 := Lib.hid (hw2.trans (hb3.mono hw2.size))
    clear hb3
    gi_wp2
    obtain ⟨y4, y5⟩ := two_set z4 z5 (.slice none 0 0) (.bool false)
    exact fall_out rfl rfl y4 y5 (fallPost_none (below_two Hb3.out _ _))

set_option maxRecDepth 100000 in
set_option maxHeartbeats 4000000 in
theorem impl_OrdFall_good (b off len cap : Nat) (a2 : Option Addr) (len2 cap2 : Nat) (t : T) (ns : List Int) (w : World) (hat : At w b off t.enc) (hl : len = t.enc.length) (hc : len ≤ cap) (hm : cap ≤ maxLen) (h1 : T.vldB t.enc = true) (h2 : Sl w a2 len2 cap2 ns) (h3 : len2 ≤ 3000) :
    Calls Try.prog 18 #[.slice (some ⟨b, off, none⟩) len cap, .slice a2 len2 cap2] w (FallPostI w (T.fallP t.enc ns)) := by
  have hw2 : Below w.heap.size w ((w.alloc (.cells #[.slice none 0 0] 29)).alloc (.cells #[.bool false] 4)) := ((Below.refl _ _).alloc (Nat.le_refl _) _).alloc (by simp) _
  obtain ⟨w2, hww⟩ : ∃ w2, w2 = (w.alloc (.cells #[.slice none 0 0] 29)).alloc (.cells #[.bool false] 4) := ⟨_, rfl⟩
  have hs2 : w2.heap.size = w.heap.size + 2 := by rw [hww]; simp
  have hx4 : Boxed w2 w.heap.size 29 (.slice none 0 0) := by rw [hww]; exact (Boxed.new w _ _).alloc _
  have hx5 : Boxed w2 (w.heap.size + 1) 4 (.bool false) := by
    have h := Boxed.new (w.alloc (.cells #[.slice none 0 0] 29)) 4 (.bool false)
    rw [World.size_alloc] at h
    rw [hww]; exact h
  rw [← hww] at hw2
  have HWW := Lib.hid hww.symm
  clear hww
  refine (callsIn_wide (n := 20)).1 ?_
  have hbw : b < w.heap.size := hat.lt (T.enc_ne t)
  have hsl1 : Sl w2 (some ⟨b, off, none⟩) len cap t.enc := Sl.below ⟨hl.symm, hc, hm, fun _ => ⟨b, off, rfl, hat⟩⟩ hw2
  have k1 := Lib.hid (impl_valid (some ⟨b, off, none⟩) len cap t.enc w2 hsl1 h1)
  have HAT := Lib.hid hat
  have HN := Lib.hid hl
  have H1 := Lib.hid h1
  have H2 := Lib.hid h2
  have h2b : ∀ g o, a2 = some ⟨g, o, none⟩ → 0 < len2 → g < w.heap.size := fun g o e h0 => by
    obtain ⟨g', o', e', hat'⟩ := h2.2.2.2 h0
    rw [e] at e'
    cases e'
    exact World.block_lt_of_cell? w _ (hat' 0 (by rw [h2.1]; exact h0))
  have H2B := Lib.hid h2b
  clear h1 hat hl h2 hsl1 h2b
  refine callsIn_of_wp_marks Try.func18 rfl trivial ?_ rfl
  simp only [Try.ntmps18, List.size_toArray, List.length_cons, List.length_nil, Nat.reduceAdd, Nat.reduceSub, Array.replicate_succ, Array.replicate_zero, List.push_toArray, List.append_toArray, List.nil_append, List.cons_append]
  gi_wp2
  rw [HWW.out]
  refine ⟨trivial, (callsIn_wide.2 k1.out).mono ?_⟩
  rintro ee w3 ⟨rfl, hb3⟩
  have hl4 : w.heap.size < w2.heap.size := by omega
  have hl5 : w.heap.size + 1 < w2.heap.size := by omega
  have x4 : Boxed w3 w.heap.size 29 (.slice none 0 0) := Boxed.below hx4 hb3 hl4
  have x5 : Boxed w3 (w.heap.size + 1) 4 (.bool false) := Boxed.below hx5 hb3 hl5
  have z4 := x4.cell
  have z5 := x5.cell
  have f4 := x4.frozen
  have f5 := x5.frozen
  have Hb3 := Lib.hid (hw2.trans (hb3.mono hw2.size))
  have hs3 : w.heap.size + 2 ≤ w3.heap.size := by have := hb3.size; omega
  have X4 := Lib.hid x4
  have X5 := Lib.hid x5
  clear hb3 x4 x5
  gi_wp2
  gi_loopw [21] (fun i wr => ∃ k : Nat, k ≤ len2 ∧ i = .int .i64 k ∧ wr = w3 ∧ ∀ v ∈ ns.take k, 0 ≤ v ∧ v ≤ 99)
    (fun i _ => len2 - (intOf i).toNat)
  case atStart => exact ⟨0, Nat.zero_le _, rfl, rfl, fun v hv => by simp at hv⟩
  case round =>
    obtain ⟨k, hk, rfl, rfl, hall⟩ := hrel
    have HALL := Lib.hid hall
    clear hall
    by_cases hlt : k < len2
    · obtain ⟨g, o, hae, hat2⟩ := H2.out.2.2.2 (by omega)
      have hkn : k < ns.length := by rw [H2.out.1]; exact hlt
      obtain ⟨x, hx⟩ : ∃ x, x = ns[k] := ⟨_, rfl⟩
      have hxc : wr.cell? ⟨g, o + k, none⟩ = some (.int .i64 x) := by
        have hb := H2B.out g o hae (by omega)
        refine (Hb3.out.cell (p := ⟨g, o + k, none⟩) hb).trans ?_
        rw [hat2 k hkn, hx]
        simp [hkn]
      have htk : ns.take (k + 1) = ns.take k ++ [x] := by rw [hx, List.take_succ_eq_append_getElem hkn]
      have Htk := Lib.hid htk
      have Hxm := Lib.hid (show x ∈ ns by rw [hx]; exact List.getElem_mem hkn)
      have hcap := H2.out.2.1
      subst hae
      clear hx htk hat2 hkn
      by_cases hv : 0 ≤ x ∧ x ≤ 99
      · have ks := Lib.hid (isStepNumber_any x)
        have hkt : decide (0 ≤ x ∧ x ≤ 99) = true := decide_eq_true hv
        rw [hkt] at ks
        have HV := Lib.hid hv
        clear hkt hv
        gi_wp2
        refine ⟨trivial, (callsIn_wide.2 (ks.out _)).mono ?_⟩
        rintro ee wx ⟨rfl, rfl⟩
        gi_wp2
        go_roundw
        case rel => exact ⟨k + 1, by omega, by simp, by trivial, fun v hv => by
          rw [Htk.out, List.mem_append] at hv
          rcases hv with hv | hv
          · exact HALL.out v hv
          · simp at hv
            subst hv
            exact HV.out⟩
        case measure => simp [intOf]; omega
      · have ks := Lib.hid (isStepNumber_any x)
        have hkt : decide (0 ≤ x ∧ x ≤ 99) = false := decide_eq_false hv
        rw [hkt] at ks
        have HV := Lib.hid hv
        clear hkt hv
        gi_wp2
        refine ⟨trivial, (callsIn_wide.2 (ks.out _)).mono ?_⟩
        rintro ee wx ⟨rfl, rfl⟩
        gi_wp2
        obtain ⟨y4, y5⟩ := two_set z4 z5 (.slice none 0 0) (.bool false)
        rw [T.fallP_bad (.inr (.inr ⟨x, Hxm.out, HV.out⟩))]
        exact fall_out rfl rfl y4 y5 (fallPost_none (below_two Hb3.out _ _))
    · obtain rfl : k = len2 := by omega
      have hall : ∀ v ∈ ns, 0 ≤ v ∧ v ≤ 99 := by
        have h := HALL.out
        rw [← H2.out.1, List.take_length] at h
        exact h
      obtain ⟨p, hp⟩ := nums_of hall
      have HP := Lib.hid hp
      have HALL2 := Lib.hid hall
      clear hp hall
      gi_wp2
      refine ⟨trivial, (callsIn_wide.2 (values_any _ _ _ _)).mono ?_⟩
      rintro ee wr ⟨rfl, rfl⟩
      gi_wp2
      refine ⟨trivial, (callsIn_wide.2 (stepsFrom_any _ _ _ _ _ _)).mono ?_⟩
      rintro ee ws ⟨rfl, rfl⟩
      gi_wp2
      have HFP := Lib.hid (T.fallP_good H1.out (by rw [H2.out.1]; exact h3) HALL2.out)
      rw [HFP.out]
      obtain ⟨s3, hs3e⟩ : ∃ s3, s3 = wr.heap.size := ⟨_, rfl⟩
      rw [← hs3e]
      obtain ⟨W0, hW0⟩ : ∃ W0, W0 = ((((wr.alloc (.cells #[.slice none 0 0] 29)).alloc (.cells #[.slice a2 k cap2] 22)).alloc (.cells #[.slice (some ⟨b, off, none⟩) len cap] 22)).alloc (.cells #[.func (.func 60) #[] #[.pointer (some ⟨s3 + 1, 0, none⟩)]] 46)) := ⟨_, rfl⟩
      rw [← hW0]
      have hsz : W0.heap.size = s3 + 4 := by rw [hW0, hs3e]; simp
      have hb30 : Below wr.heap.size wr W0 := by
        rw [hW0]
        exact ((((Below.refl _ _).alloc (Nat.le_refl _) _).alloc (by simp) _).alloc (by simp; omega) _).alloc (by simp; omega) _
      have e8 : Boxed W0 s3 29 (.slice none 0 0) := by rw [hW0]; exact (((box_at _ _ hs3e.symm).alloc _).alloc _).alloc _
      have eS : Boxed W0 (s3 + 1) 22 (.slice a2 k cap2) := by rw [hW0]; exact ((box_at _ _ (by rw [hs3e]; simp)).alloc _).alloc _
      have eO : Boxed W0 (s3 + 1 + 1) 22 (.slice (some ⟨b, off, none⟩) len cap) := by rw [hW0]; exact (box_at _ _ (by rw [hs3e]; simp)).alloc _
      have eF : Boxed W0 (s3 + 1 + 1 + 1) 46 (.func (.func 60) #[] #[.pointer (some ⟨s3 + 1, 0, none⟩)]) := by rw [hW0]; exact box_at _ _ (by rw [hs3e]; simp)
      have hs3g : w.heap.size + 2 ≤ s3 := by rw [hs3e]; exact hs3
      have e4 : Boxed W0 w.heap.size 29 (.slice none 0 0) := Boxed.below X4.out hb30 (by omega)
      have e5 : Boxed W0 (w.heap.size + 1) 4 (.bool false) := Boxed.below X5.out hb30 (by omega)
      have hbw0 : Below w.heap.size w W0 := Hb3.out.trans (hb30.mono (by omega))
      have hat0 : At W0 b off t.enc := HAT.out.below hbw0 hbw
      have hsl0 : Sl W0 a2 k cap2 (nums p) := by rw [← HP.out]; exact H2.out.below hbw0
      have h2b0 : ∀ g o, a2 = some ⟨g, o, none⟩ → 0 < k → g < W0.heap.size ∧ (g < w.heap.size ∨ s3 + 1 ≤ g) := fun g o e h0 => by
        have := H2B.out g o e h0
        exact ⟨by omega, .inl this⟩
      clear hW0 hb30 hs3e z4 z5 f4 f5 hs3
      have hseq := stepsFrom1_seqL 19 p w.heap.size (s3 + 1) (W0.heap.size + 4) (W0.heap.size + 4) (s3 + 1 + 1) (s3 + 1 + 1 + 1) (s3 + 1) b off len cap k cap2 a2 t W0 (by omega) h3 (by omega) (Nat.le_refl _) (Nat.le_refl _)
        ⟨by omega, .inr (by omega)⟩ ⟨by omega, .inr (by omega)⟩ ⟨by omega, .inr (by omega)⟩ (.inl hbw) eO.cell eF.cell eS.cell hsl0 h2b0 HN.out hc hm hat0 H1.out
      obtain ⟨q, hq⟩ : ∃ q, q = W0.heap.size + 4 := ⟨_, rfl⟩
      rw [← hq] at hseq
      have hq1 : W0.heap.size + 4 ≤ q := Nat.le_of_eq hq.symm
      have hq2 : q ≤ W0.heap.size + 4 := Nat.le_of_eq hq
      have hz1 : s3 + 4 ≤ W0.heap.size := Nat.le_of_eq hsz.symm
      have h00 : FlI t w q s3 k ([], 0) W0 := ⟨Nat.zero_le _, e4, e5, hbw0, t, [], [], none, 0, 0, .nil, rfl, e8, World.ownsRow_nil _ _ _ _, RowsT.nil _ _, Blocks.nil _⟩
      have Hseq := Lib.hid hseq
      clear hseq eO eF eS e8 e4 e5 hat0 hsl0 h2b0 hq hsz
      obtain ⟨j0, hj, hy0, hy1, hy2⟩ := info_parts info_ints
      refine wpIn_rangeL rfl (by omega) (gf := 59) (lb := #[.pointer (some ⟨s3 + 1 + 1, 0, none⟩), .pointer (some ⟨s3 + 1 + 1 + 1, 0, none⟩)]) rfl trivial (enters_of Try.func59 (by kernel_rfl) rfl)
        Hseq.out (by omega) (by omega) (fun _ => rfl) (fun i x W l o o' hg _ ho hc => by
          obtain ⟨g1, u, ls, g2, g3, g4, g5, g6, g7⟩ := hg
          exact ⟨g1, u, ls, g2, g3, g4, g5, ownsRow_putObj g6 o' ho hc, g7⟩) (FlI t w q s3 k) (FlX t w) ?hI ?hIx h00
        (fun x => { tmps := #[.slice (some ⟨b, off, none⟩) len cap, .slice a2 k cap2, undef, undef, .pointer (some ⟨w.heap.size, 0, none⟩), .pointer (some ⟨w.heap.size + 1, 0, none⟩), undef, u7, .pointer (some ⟨s3, 0, none⟩), .slice x.1.1 x.1.2.1 x.1.2.2.1, .bool x.1.2.2.2, .slice (some ⟨b, off, none⟩) len cap, .bool true, .bool false, .bool false, .slice a2 k cap2, .int .i64 k, .bool (decide (3000 < (k : Int))), .bool (decide (3000 < (k : Int))), .slice a2 k cap2, .int .i64 k, .int .i64 k, .bool false, u23, u24, u25, u26, u27, u28, .slice (some ⟨b, off, none⟩) len cap, .slice a2 k cap2, .func (.func 60) #[] #[.pointer (some ⟨s3 + 1, 0, none⟩)], .func (.func 59) #[] #[.pointer (some ⟨s3 + 1 + 1, 0, none⟩), .pointer (some ⟨s3 + 1 + 1 + 1, 0, none⟩)], .slice x.1.1 x.1.2.1 x.1.2.2.1, .bool x.1.2.2.2, undef, undef, undef, undef, undef, undef, undef], defers := [] }) ?assign ?body ?done ?stop
      case assign =>
        rintro l ⟨⟨xa, xn, xc, xo⟩, xv, xz⟩ W K hK
        dsimp only [encsF, encsH] at hK ⊢
        gi_wp2
        exact hK
      case hI =>
        rintro s A C row ⟨hsM, b4, b5, hb, u, ls, vs, a, n, c, hru, hn, b8, hown, hrows, hblk⟩ hg hr
        have hup : ∀ r, row = some r → W0.heap.size ≤ r := fun r e => (hr r e).1
        have hr' : ∀ r, row = some r → r < q ∨ ∃ o : Obj, A.heap[r]? = some o ∧ o.isCells = false := fun r e => (hr r e).2.imp (fun h => by omega) id
        exact ⟨hsM, b4.kept hg (fun e => by have := hup _ e.symm; omega), b5.kept hg (fun e => by have := hup _ e.symm; omega), hb.grown hg hb.size (fun k e => by have := hup k e; omega), u, ls, vs, a, n, c, hru, hn, b8.kept hg (fun e => by have := hup _ e.symm; omega), ownsRow_keptL hown hg hr', hrows.keptL hg hr', hblk⟩
      case hIx =>
        rintro c s A C row ⟨hc', h2, b4, b5, hb⟩ hg hr
        have hup : ∀ r, row = some r → W0.heap.size ≤ r := fun r e => (hr r e).1
        exact ⟨hc', h2, b4.kept hg (fun e => by have := hup _ e.symm; omega), b5.kept hg (fun e => by have := hup _ e.symm; omega), hb.grown hg hb.size (fun k e => by have := hup k e; omega)⟩
      case body =>
        rintro l ⟨s, mg⟩ ⟨⟨xa, xn, xc, xo⟩, xv, xz⟩ Wr hl' ⟨hsM, b4, b5, hb, u, ls, vs, a, n, c, hru, hn, b8, hown, hrows, hblk⟩ ⟨hlt', u', ls', hru', hnz, hxn, hxo, hxown, hfresh⟩
        dsimp only at hxn hxo hxown hfresh hlt' hru hru' hblk ⊢
        have Hfresh := Lib.hid hfresh
        have Hblk := Lib.hid hblk
        clear hfresh hblk
        obtain ⟨rfl, rfl⟩ := hru.unique hru'
        have z4 := b4.cell
        have z5 := b5.cell
        have z8 := b8.cell
        have f4 := b4.frozen
        have f5 := b5.frozen
        have f8 := b8.frozen
        have hnk : n < k := by rw [hn, hru.len]; exact hlt'
        have HB := Lib.hid hb
        have Hown := Lib.hid hown
        have Hrows := Lib.hid hrows
        have Hn := Lib.hid hn
        have HRU := Lib.hid hru
        have HNZ := Lib.hid hnz
        have Hxn := Lib.hid hxn
        have Hxown := Lib.hid hxown
        have B4 := Lib.hid b4
        have B5 := Lib.hid b5
        have B8 := Lib.hid b8
        have HLT := Lib.hid hlt'
        clear hb hown hrows hn hru hru' hnz hxn hxown b4 b5 b8 hlt' hsM
        cases hxo2 : xo with
        | false =>
          have HXO := Lib.hid (hxo.symm.trans hxo2)
          clear hxo hxo2
          gi_wp2
          exact ⟨((KQ.refl _ _ _ _ _).setCell _ _ ⟨Nat.le_refl _, by omega⟩).setCell _ _ ⟨by omega, by omega⟩, rfl, ⟨s, xv, u, ls, rfl, HRU.out, HNZ.out, HXO.out⟩, (B4.out.set _).other (by omega) _, (B5.out.other (by omega) _).set _, below_two HB.out _ _⟩
        | true =>
          have hvn : T.vldB (u.step xv).enc = true := hxo.symm.trans hxo2
          have hfe : T.fit (u.step xv) = (u.step xv).enc := by rw [T.fit, if_pos hvn]
          have hown2 := Hxown.out
          have hxn := Hxn.out
          rw [hfe] at hown2 hxn
          subst hxn
          have hty2 : ∃ g cur, xa = some ⟨g, 0, none⟩ ∧ Wr.heap[g]? = some (.cells cur 3 (0, 0)) := by
            obtain ⟨_, ⟨h, h0⟩ | ⟨g, cap', cur, h, _, h2, _⟩⟩ := hown2
            · have := T.enc_len (u.step xv); omega
            · cases h
              exact ⟨g, cur, rfl, h2⟩
          obtain ⟨g2, cur2, rfl, hcur2⟩ := hty2
          obtain ⟨g2', he2, hg2, hatn, hcn, hcmn⟩ := own_rowT hown2
          cases he2
          have hg2l : g2 < Wr.heap.size := hatn.lt (T.enc_ne _)
          have HVN := Lib.hid hvn
          have HCur := Lib.hid hcur2
          have HOW2 := Lib.hid hown2
          have hfr := Hfresh.out g2 rfl
          have HFR1 := hfr.1
          have HFR2 := hfr.2
          clear hfr
          clear hxo hxo2 hvn hfe hown2 hcur2 hatn
          gi_wp2_with (gi_at_builtin; go_loud (refine wpListIn_append_own _ rfl (.tmp 37) (.tmp 39) 29 rfl q 22 j0 (.slice none 0 0) 1 24 Try.underlying29 hj hy0 hy1 hy2 rfl (by decide) _ n vs rfl (Hown.out.alloc _) ⟨Wr.heap.size, 0, none⟩ 1 1 [.slice (some ⟨g2, 0, none⟩) (u.step xv).enc.length xc] rfl rfl (cell_one_new _ _ _) (slice_oneCell _ _ _) (by unfold maxLen; omega) (by omega) (by simp; omega) ?_); intro v1 w5 ho1 hg1 _; obtain ⟨g5, c5, rfl⟩ := ownsRow_succ ho1; have y8 : Boxed w5 s3 29 (.slice a n c) := (B8.out.alloc _).kept hg1 (B8.out.not_row (by decide) Hown.out); have y8c := y8.cell; have y8f := y8.frozen; have Ho1 := Lib.hid ho1; have Hg1 := Lib.hid hg1; clear ho1 hg1 y8)
          obtain ⟨hkq, hb8', hown'⟩ := fall_appended (lo := w.heap.size) (by omega) B8.out Hown.out Ho1.out Hg1.out
          have hint : ∀ g cur, q ≤ g → Wr.heap[g]? = some (.cells cur 3 (0, 0)) → (w5.setCell ⟨s3, 0, none⟩ (.slice (some ⟨g5, 0, none⟩) (n + 1) c5)).heap[g]? = Wr.heap[g]? := fun g cur h1 h2 => hkq.block g (Array.getElem?_eq_some_iff.1 h2).1 (fun h => by
            rcases h with h | ⟨_, cs, fr, h⟩
            · omega
            · rw [h2] at h
              cases h)
          have hb2 := hint g2 cur2 hg2 HCur.out
          refine ⟨hkq, ?_, ((B4.out.alloc _).kept Hg1.out (B4.out.not_row (by decide) Hown.out)).other (by omega) _, ((B5.out.alloc _).kept Hg1.out (B5.out.not_row (by decide) Hown.out)).other (by omega) _, ?_, u.step xv, ls ++ [u.step xv], vs ++ [.slice (some ⟨g2, 0, none⟩) (u.step xv).enc.length xc], some ⟨g5, 0, none⟩, n + 1, c5, .snoc HRU.out HNZ.out HVN.out, by simp [Hn.out], hb8', hown', ?_, ?_⟩
          · have := HLT.out
            simp [nxF]; omega
          · exact ((HB.out.alloc (by omega) _).grown Hg1.out (by simp; omega) (fun j ej => by have := (Hown.out.lt j ej).1; omega)).setCell (p := ⟨s3, 0, none⟩) (by show w.heap.size ≤ s3; omega) _
          · exact (Hrows.out.kept hint).snoc (own_of_block HOW2.out hb2)
          · exact Hblk.out.snoc (n := (u.step xv).enc.length) (c := xc) HFR1 HFR2
      case done =>
        rintro D s Wd hD hS ⟨hsM, b4, b5, hb, u, ls, vs, a, n, c, hru, hn, b8, hown, hrows, hblk⟩ hK
        have Hblk := Lib.hid hblk
        have z4 := b4.cell
        have z5 := b5.cell
        have z8 := b8.cell
        have f4 := b4.frozen
        have f5 := b5.frozen
        have f8 := b8.frozen
        have Hres := Lib.hid (T.fall_done hS hru)
        have HK := Lib.hid hK
        have HB := Lib.hid hb
        have Hown := Lib.hid hown
        have Hrows := Lib.hid hrows
        have Hn := Lib.hid hn
        have hl4 : w.heap.size ≠ D := by have := b4.lt; omega
        have hl5 : w.heap.size + 1 ≠ D := by have := b5.lt; omega
        have hDl : D < Wd.heap.size := (Array.getElem?_eq_some_iff.1 hK).1
        clear hS hK hb hown hrows hn hru hsM b4 b5 b8 hblk
        gi_wp2
        have hres : T.fallP t.enc ns = some ls := HFP.out.trans (by rw [HP.out]; exact Hres.out)
        rw [hres]
        obtain ⟨y4, y5⟩ := two_set z4 z5 (.slice a n c) (.bool true)
        have hsz1 : (Wd.setCell ⟨w.heap.size, 0, none⟩ (.slice a n c)).heap.size = Wd.heap.size := by simp [World.setCell]
        have g1 := grownBy_setCell' Wd w.heap.size (.slice a n c)
        have g2 := grownBy_setCell' (Wd.setCell ⟨w.heap.size, 0, none⟩ (.slice a n c)) (w.heap.size + 1) (.bool true)
        have hK2 : ((Wd.setCell ⟨w.heap.size, 0, none⟩ (.slice a n c)).setCell ⟨w.heap.size + 1, 0, none⟩ (.bool true)).heap[D]? = some (.deferred (some [])) :=
          (g2.block D (by rw [hsz1]; exact hDl) (fun e => hl5 (Option.some.inj e).symm)).trans ((g1.block D hDl (fun e => hl4 (Option.some.inj e).symm)).trans HK.out)
        have g3 := grownBy_putObj' ((Wd.setCell ⟨w.heap.size, 0, none⟩ (.slice a n c)).setCell ⟨w.heap.size + 1, 0, none⟩ (.bool true)) D (.deferred none)
        have r1 : ∀ r, some w.heap.size = some r → r < q ∨ ∃ o : Obj, Wd.heap[r]? = some o ∧ o.isCells = false := fun r e => .inl (by cases e; omega)
        have r2 : ∀ r, some (w.heap.size + 1) = some r → r < q ∨ ∃ o : Obj, (Wd.setCell ⟨w.heap.size, 0, none⟩ (.slice a n c)).heap[r]? = some o ∧ o.isCells = false := fun r e => .inl (by cases e; omega)
        have r3 : ∀ r, some D = some r → r < q ∨ ∃ o : Obj, ((Wd.setCell ⟨w.heap.size, 0, none⟩ (.slice a n c)).setCell ⟨w.heap.size + 1, 0, none⟩ (.bool true)).heap[r]? = some o ∧ o.isCells = false := fun r e => .inr (by cases e; exact ⟨_, hK2, rfl⟩)
        have hbd := below_two HB.out (.slice a n c) (.bool true)
        have hfin := hbd.grown g3 hbd.size (fun k e => by cases e; omega)
        refine ⟨by simp, .inl ⟨_, _, rfl, run_takeDeferred hK2, ?_⟩⟩
        refine fall_out rfl rfl (a := a) (m := n) (c := c) (y := true) ?_ ?_ ⟨a, n, c, vs, rfl, Hn.out, Joins.ownsRow_le (base' := w.heap.size) (ownsRow_keptL (ownsRow_keptL (ownsRow_keptL Hown.out g1 r1) g2 r2) g3 r3) (by omega), (((Hrows.out.keptL g1 r1).keptL g2 r2).keptL g3 r3).le (by omega), hfin, _, Hblk.out⟩
        · exact (World.cell?_of_block (World.putObj_heap_other hl4)).trans y4
        · exact (World.cell?_of_block (World.putObj_heap_other hl5)).trans y5
      case stop =>
        rintro D c s Wd hD hSp ⟨rfl, h2, b4, b5, hb⟩ hK
        have hres := T.fall_stop hSp.1 h2
        rw [← HP.out] at hres
        have y4 : (Wd.putObj D (.deferred none)).cell? ⟨w.heap.size, 0, none⟩ = some (.slice none 0 0) := (b4.kept (grownBy_putObj' Wd D _) (fun e => by have h : w.heap.size = D := Option.some.inj e; omega)).cell
        have y5 : (Wd.putObj D (.deferred none)).cell? ⟨w.heap.size + 1, 0, none⟩ = some (.bool false) := (b5.kept (grownBy_putObj' Wd D _) (fun e => by have h : w.heap.size + 1 = D := Option.some.inj e; omega)).cell
        have hbD : Below w.heap.size w (Wd.putObj D (.deferred none)) := hb.grown (grownBy_putObj' Wd D _) hb.size (fun k e => by cases e; omega)
        have Hres := Lib.hid hres
        clear hres
        gi_wp2
        refine ⟨by simp, .inl ⟨_, _, rfl, run_takeDeferred hK, ?_⟩⟩
        rw [Hres.out]
        exact fall_out rfl rfl y4 y5 (fallPost_none hbD)
end Go.Proofs.Ytdcaefgbpnjjaaa

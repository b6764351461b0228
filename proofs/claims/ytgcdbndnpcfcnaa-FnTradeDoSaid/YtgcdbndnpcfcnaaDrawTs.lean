/- What the laws of chapter 8 draw: rules. -/
import Derived.Test.YtgcdbndnpcfcnaaDrawTr
namespace Go.Proofs.Ytgcdbndnpcfcnaa
set_option maxRecDepth 100000
open Go.RowKit

/-- A rule that is being drawn: its two rows, the structure's own block s, the reader. -/
structure RSt (B g P s gT cT gG cG : Nat) (wr w : World) : Prop where
  take : ∃ xs, w.ownsRow B 3 1 (.slice (some ⟨gT, 0, none⟩) 3 cT) 3 (ints xs)
  give : ∃ ys, w.ownsRow B 3 1 (.slice (some ⟨gG, 0, none⟩) 3 cG) 3 (ints ys)
  box : Blk w s (.slice (some ⟨gT, 0, none⟩) 3 cT) (.slice (some ⟨gG, 0, none⟩) 3 cG) 25
  rd : RdOk w g P
  grown : wr.grownBy w (some g)
  apart : g < B ∧ wr.heap.size ≤ gT ∧ gT < gG ∧ gG < s

theorem gb_none (w : World) (g : Nat) : w.grownBy w (some g) := World.grownBy.refl _ _
theorem g_drew {w w' : World} {row : Option Nat} (h : w.drew.grownBy w' row) : w.grownBy w' row := ⟨h.os, h.tape, h.output, h.size, h.block⟩

theorem RSt.pick {B g P P' s gT cT gG cG : Nat} {wr w w' : World} (h : RSt B g P s gT cT gG cG wr w) (hg : w.grownBy w' (some g)) (hr : RdOk w' g P') : RSt B g P' s gT cT gG cG wr w' := by
  obtain ⟨xs, h1⟩ := h.take
  obtain ⟨ys, h2⟩ := h.give
  have ha := h.apart
  have l1 := (h1.lt gT rfl).1
  have l2 := (h2.lt gG rfl).1
  exact ⟨⟨xs, own_rd h1 hg ha.1⟩, ⟨ys, own_rd h2 hg ha.1⟩, (hg.block s h.box.lt (fun e => by cases e; omega)).trans h.box, hr, grownBy_trans h.grown hg, ha⟩

theorem RSt.setT {B g P s gT cT gG cG : Nat} {wr w : World} (h : RSt B g P s gT cT gG cG wr w) (j : Nat) (z : Int) : RSt B g P s gT cT gG cG wr (w.setCell ⟨gT, j, none⟩ (.int .i64 z)) := by
  obtain ⟨xs, h1⟩ := h.take
  obtain ⟨ys, h2⟩ := h.give
  have ha := h.apart
  have l1 := (h1.lt gT rfl).1
  have hs := set_grown w ⟨gT, j, none⟩ (.int .i64 z)
  refine ⟨⟨xs.set j z, ?_⟩, ⟨ys, h2.kept hs (.inr (by simp [Value.ownBlock]; omega))⟩, h.box.other _ _ (by show gT ≠ s; omega), h.rd.kept hs (fun k e => by cases e; show g < gT; omega), gs h.grown hs (fun k e => by cases e; exact ha.2.1), ha⟩
  have h7 := (h1.stored j (.int .i64 z)).1
  rw [show (ints xs).set j (.int .i64 z) = ints (xs.set j z) by simp [ints, List.map_set]] at h7
  exact h7

theorem RSt.setG {B g P s gT cT gG cG : Nat} {wr w : World} (h : RSt B g P s gT cT gG cG wr w) (j : Nat) (z : Int) : RSt B g P s gT cT gG cG wr (w.setCell ⟨gG, j, none⟩ (.int .i64 z)) := by
  obtain ⟨xs, h1⟩ := h.take
  obtain ⟨ys, h2⟩ := h.give
  have ha := h.apart
  have l1 := (h1.lt gT rfl).1
  have hs := set_grown w ⟨gG, j, none⟩ (.int .i64 z)
  refine ⟨⟨xs, h1.kept hs (.inr (by simp [Value.ownBlock]; omega))⟩, ⟨ys.set j z, ?_⟩, h.box.other _ _ (by show gG ≠ s; omega), h.rd.kept hs (fun k e => by cases e; show g < gG; omega), gs h.grown hs (fun k e => by cases e; show wr.heap.size ≤ gG; omega), ha⟩
  have h7 := (h2.stored j (.int .i64 z)).1
  rw [show (ints ys).set j (.int .i64 z) = ints (ys.set j z) by simp [ints, List.map_set]] at h7
  exact h7

theorem RSt.cT {B g P s gT cT gG cG : Nat} {wr w : World} (h : RSt B g P s gT cT gG cG wr w) {j : Nat} (hj : j < 3) : ∃ u, w.cell? ⟨gT, j, none⟩ = some u := by
  obtain ⟨xs, h1⟩ := h.take
  rw [h1.cellAt j (by omega)]
  exact ⟨_, List.getElem?_eq_getElem (by rw [h1.1]; omega)⟩
theorem RSt.cG {B g P s gT cT gG cG : Nat} {wr w : World} (h : RSt B g P s gT cT gG cG wr w) {j : Nat} (hj : j < 3) : ∃ u, w.cell? ⟨gG, j, none⟩ = some u := by
  obtain ⟨xs, h1⟩ := h.give
  rw [h1.cellAt j (by omega)]
  exact ⟨_, List.getElem?_eq_getElem (by rw [h1.1]; omega)⟩
theorem RSt.fT {B g P s gT cT gG cG : Nat} {wr w : World} (h : RSt B g P s gT cT gG cG wr w) (j : Nat) : w.frozen? ⟨gT, j, none⟩ = false := by
  obtain ⟨xs, h1⟩ := h.take; exact h1.frozenAt j
theorem RSt.fG {B g P s gT cT gG cG : Nat} {wr w : World} (h : RSt B g P s gT cT gG cG wr w) (j : Nat) : w.frozen? ⟨gG, j, none⟩ = false := by
  obtain ⟨xs, h1⟩ := h.give; exact h1.frozenAt j

theorem RdOk.cast {w w' : World} {g P : Nat} (h : RdOk w g P) (e : w = w') : RdOk w' g P := e ▸ h

/-- The loop over the rules. -/
def TsRel (w : World) (g P K k : Nat) (v5 v6 : Value) (wr : World) : Prop :=
  ∃ (i : Nat) (z : Int) (ts : List Tr), v6 = .int .i64 z ∧ z + 1 = k ∧ k + i = K ∧ T3 ts ∧ TsD w.heap.size wr v5 i ts ∧ RdOk wr g (P + 1 + 20 * i) ∧ w.grownBy wr (some g)

theorem own_types {w : World} {B e e' n n' c c' s s' g g' : Nat} {xs ys : List Value} (h : w.ownsRow B e s (.slice (some ⟨g, 0, none⟩) n c) n xs) (h' : w.ownsRow B e' s' (.slice (some ⟨g', 0, none⟩) n' c') n' ys) (he : e ≠ e') : g ≠ g' := by
  rintro rfl
  rcases h.2 with ⟨h1, _⟩ | ⟨_, _, _, h1, _, h3, _⟩
  · cases h1
  · rcases h'.2 with ⟨k1, _⟩ | ⟨_, _, _, k1, _, k3, _⟩
    · cases k1
    · cases h1
      cases k1
      rw [h3] at k3
      cases k3
      exact he rfl

theorem own_cells_eq {w : World} {B B' e size g n c : Nat} {xs ys : List Value} (h : w.ownsRow B e size (.slice (some ⟨g, 0, none⟩) n c) n xs) (h' : w.ownsRow B' e size (.slice (some ⟨g, 0, none⟩) n c) n ys) : xs = ys := by
  rcases h.2 with ⟨h1, _⟩ | ⟨_, _, _, h1, _, h3, _, _, _, h7⟩
  · cases h1
  · rcases h'.2 with ⟨k1, _⟩ | ⟨_, _, _, k1, _, k3, _, _, _, k7⟩
    · cases k1
    · cases h1
      cases k1
      rw [h3] at k3
      cases k3
      exact h7.symm.trans k7

/-- Behind the append of one more rule. -/
theorem TsD.push {B go co i g8 c8 : Nat} {a1 a2 : Option Addr} {c1 c2 : Nat} {w w8 : World} {o : Obj} {ts : List Tr} {cs : List Value} {t : Tr} (h : TsD B w (.slice (some ⟨go, 0, none⟩) i co) i ts) (hcs : w.ownsRow B 25 2 (.slice (some ⟨go, 0, none⟩) i co) i cs) (hg : (w.alloc o).grownBy w8 (some go))
    (ho : w8.ownsRow B 25 2 (.slice (some ⟨g8, 0, none⟩) (i + 1) c8) (i + 1) (cs ++ [.slice a1 t.take.length c1, .slice a2 t.give.length c2])) (hx : w.ownsRow B 3 1 (.slice a1 t.take.length c1) t.take.length (ints t.take)) (hy : w.ownsRow B 3 1 (.slice a2 t.give.length c2) t.give.length (ints t.give)) :
    TsD B w8 (.slice (some ⟨g8, 0, none⟩) (i + 1) c8) (i + 1) (ts ++ [t]) := by
  have key : ∀ {a : Option Addr} {n c : Nat} {zs : List Value}, w.ownsRow B 3 1 (.slice a n c) n zs → w8.ownsRow B 3 1 (.slice a n c) n zs := by
    intro a n c zs hz
    refine (hz.alloc o).kept hg ?_
    rcases hz.2 with ⟨h1, _⟩ | ⟨g, cap, cur, h1, _⟩
    · cases h1; exact .inl rfl
    · cases h1
      exact .inr (fun e => own_types hz hcs (by decide) (Option.some.inj e))
  obtain ⟨g1, c1', cs1, e1, hn, ho1, h4⟩ := h
  cases e1
  obtain rfl := own_cells_eq ho1 hcs
  refine TsD.app hn ho ho1.1 (fun k t ht => ?_) (key hx) (key hy)
  obtain ⟨⟨b1, d1, q1, r1⟩, b2, d2, q2, r2⟩ := h4 k t ht
  exact ⟨⟨b1, d1, q1, key r1⟩, b2, d2, q2, key r2⟩

theorem TsD.head {B : Nat} {w : World} {g c n : Nat} {ts : List Tr} (h : TsD B w (.slice (some ⟨g, 0, none⟩) n c) n ts) (hn : 1 ≤ n) : ∃ (t : Tr) (tl : List Tr) (a1 a2 : Option Addr) (c1 c2 : Nat), ts = t :: tl ∧ w.cell? ⟨g, 0, none⟩ = some (.slice a1 t.take.length c1) ∧ w.cell? ⟨g, 1, none⟩ = some (.slice a2 t.give.length c2) ∧
    w.ownsRow B 3 1 (.slice a1 t.take.length c1) t.take.length (ints t.take) ∧ w.ownsRow B 3 1 (.slice a2 t.give.length c2) t.give.length (ints t.give) := by
  obtain ⟨g1, c1, cs, e, hl, ho, h4⟩ := h
  cases e
  cases ts with
  | nil => simp at hl; omega
  | cons t tl =>
    obtain ⟨⟨b1, d1, q1, r1⟩, b2, d2, q2, r2⟩ := h4 0 t rfl
    exact ⟨t, tl, b1, b2, d1, d2, rfl, by rw [ho.cellAt 0 (by omega)]; exact q1, by rw [ho.cellAt 1 (by omega)]; exact q2, r1, r2⟩

/-- The first rule's field is written. -/
theorem TsD.set0 {B go co i ga m c : Nat} {w : World} {tl : List Tr} {t t' : Tr} {f : Nat} {zs : List Int} (h : TsD B w (.slice (some ⟨go, 0, none⟩) i co) i (t :: tl)) (ho : w.ownsRow B 3 1 (.slice (some ⟨ga, 0, none⟩) m c) m (ints zs)) (hm : zs.length = m)
    (ht : (f = 0 ∧ t' = ⟨zs, t.give⟩) ∨ (f = 1 ∧ t' = ⟨t.take, zs⟩)) : TsD B (w.setCell ⟨go, f, none⟩ (.slice (some ⟨ga, 0, none⟩) m c)) (.slice (some ⟨go, 0, none⟩) i co) i (t' :: tl) := by
  obtain ⟨g1, c1', cs1, e1, hn, ho1, h4⟩ := h
  cases e1
  have key : ∀ {a : Option Addr} {n c' : Nat} {xs : List Value}, w.ownsRow B 3 1 (.slice a n c') n xs → (w.setCell ⟨go, f, none⟩ (.slice (some ⟨ga, 0, none⟩) m c)).ownsRow B 3 1 (.slice a n c') n xs := by
    intro a n c' xs hz
    refine ownsRow_setCell_other hz ?_ _
    intro e
    rcases hz.2 with ⟨h1, _⟩ | ⟨g, cap, cur, h1, _⟩
    · cases h1; cases e
    · cases h1
      exact own_types hz ho1 (by decide) (Option.some.inj e)
  have hl : cs1.length = i * 2 := ho1.1
  have hi : 1 ≤ i := by rw [hn]; simp
  refine ⟨go, co, _, rfl, by rw [hn]; simp, (ho1.stored f _).1, fun k t1 hk => ?_⟩
  cases k with
  | zero =>
    simp at hk
    subst hk
    obtain ⟨⟨b1, d1, q1, r1⟩, b2, d2, q2, r2⟩ := h4 0 t rfl
    rcases ht with ⟨rfl, rfl⟩ | ⟨rfl, rfl⟩
    · refine ⟨⟨_, c, by rw [Nat.zero_mul, List.getElem?_set_self (by omega), hm], ?_⟩, b2, d2, by rw [List.getElem?_set_ne (by omega)]; exact q2, key r2⟩
      show World.ownsRow _ B _ 1 (.slice (some ⟨ga, 0, none⟩) zs.length c) zs.length (ints zs)
      rw [hm]; exact key ho
    · refine ⟨⟨b1, d1, by rw [List.getElem?_set_ne (by omega)]; exact q1, key r1⟩, _, c, by rw [Nat.zero_mul, Nat.zero_add, List.getElem?_set_self (by omega), hm], ?_⟩
      show World.ownsRow _ B _ 1 (.slice (some ⟨ga, 0, none⟩) zs.length c) zs.length (ints zs)
      rw [hm]; exact key ho
  | succ k =>
    rw [List.getElem?_cons_succ] at hk
    obtain ⟨⟨b1, d1, q1, r1⟩, b2, d2, q2, r2⟩ := h4 (k + 1) t1 (by rw [List.getElem?_cons_succ]; exact hk)
    have hf : f = 0 ∨ f = 1 := by rcases ht with ⟨h, _⟩ | ⟨h, _⟩ <;> omega
    exact ⟨⟨b1, d1, by rw [List.getElem?_set_ne (by omega)]; exact q1, key r1⟩, b2, d2, by rw [List.getElem?_set_ne (by omega)]; exact q2, key r2⟩

/-- Rules that were drawn. -/
def TsDrw (w : World) (g P : Nat) (e : Ending) (w' : World) : Prop :=
  ∃ (ts : List Tr) (v : Value) (n : Nat), e = .returned v ∧ TsD w.heap.size w' v n ts ∧ T3 ts ∧ 1 ≤ n ∧ n ≤ 5 ∧ RdOk w' g (P + 200) ∧ w.grownBy w' (some g)

theorem cell_two_new (w : World) (x y : Value) (t : TypeId) : ∀ j u, [x, y][j]? = some u → (w.alloc (.cells #[x, y] t)).cell? ((⟨w.heap.size, 0, none⟩ : Addr).add j) = some u := by
  intro j u hj
  match j, hj with
  | 0, hj =>
    simp at hj
    subst hj
    rw [Addr.add_lit]
    exact Joins.cell_alloc_mark_at _ _ _ _ _ _ rfl
  | 1, hj =>
    simp at hj
    subst hj
    rw [Addr.add_lit]
    exact Joins.cell_alloc_mark_at _ _ _ _ _ _ rfl
theorem slices_oneCell (a b : Option Addr) (n c m d : Nat) : ∀ u ∈ [Value.slice a n c, Value.slice b m d], u.oneCell' = true := by
  intro u hu
  simp at hu
  rcases hu with rfl | rfl <;> rfl

theorem info_tradeD : (Try.prog.info? 25).map (fun i => (i.zero, i.size, i.bytes)) = some (some (.agg #[.slice none 0 0, .slice none 0 0]), 2, 48) := by kernel_rfl

set_option maxHeartbeats 8000000 in
theorem l20Trades_any (g P : Nat) (n : Int) (w : World) (hP : P ≤ 80000000) (hn0 : 0 ≤ n) (hn1 : n ≤ 1000000) (hrd : RdOk w g P) :
    Calls Try.prog 50 #[.pointer (some ⟨g, 0, none⟩), .int .i64 n] w (TsDrw w g P) := by
  obtain ⟨j0, hj, hy0, hy1, hy2⟩ := info_parts info_tradeD
  have hgl : g < w.heap.size := by obtain ⟨_, _, _, _, h1, _⟩ := hrd; exact (Array.getElem?_eq_some_iff.1 h1).1
  have hgA : w.grownBy (w.alloc (.cells #[] 25)) none := World.grownBy_alloc w _ none
  have k1 := Lib.hid (pick_any g P 4 (w.alloc (.cells #[] 25)) (by omega) (by decide) (by decide) (hrd.kept hgA (fun k e => by cases e)))
  have HgA := Lib.hid hgA
  have HoA := Lib.hid (World.ownsRow_lit (e := 25) (size := 2) w #[] 0 (Nat.le_refl _) (by simp [maxLen]) rfl)
  clear hrd hgA
  go_enter Try.func50, Try.ntmps50
  go_wp2_with fail
  refine (k1.out).mono ?_
  rintro ee w1 ⟨K0, rfl, hK, hr1, hg1⟩
  have hK0 := hK.1
  have hK1 := hK.2.1 (by decide)
  obtain ⟨K, hKK⟩ : ∃ K : Nat, (K : Int) = K0 + 1 := ⟨(K0 + 1).toNat, by omega⟩
  have hst : TsRel w g P K K (.slice (some ⟨w.heap.size, 0, none⟩) 0 0) (.int .i64 K0) w1 :=
    ⟨0, K0, [], rfl, by omega, rfl, fun _ h => (by cases h), ⟨w.heap.size, 0, [], rfl, rfl, own_rd HoA.out hg1 hgl, fun k t h => (by simp at h)⟩, hr1, grownBy_trans (World.grownBy_alloc w _ (some g)) hg1⟩
  have Hst := Lib.hid hst
  have hK4 : K ≤ 4 := by omega
  have HK1 := Lib.hid (show 1 ≤ K by omega)
  clear hst hK hr1 hg1 hK0 hK1 hKK
  go_wp2_with fail
  go_loopg [5, 6] K (fun k v5 v6 wr => TsRel w g P K k v5 v6 wr)
  case atStart => exact Hst.out
  case round =>
    obtain ⟨i, z, ts, rfl, hz, hki, h3, hT, hr, hg⟩ := hrel
    have hws : w.heap.size ≤ wr.heap.size := hg.size
    have hi4 : i ≤ 4 := by omega
    obtain ⟨go', co, cs, rfl, hn, ho, h4⟩ := hT
    have HT := Lib.hid (show TsD w.heap.size wr (.slice (some ⟨go', 0, none⟩) i co) i ts from ⟨go', co, cs, rfl, hn, ho, h4⟩)
    have H3 := Lib.hid h3
    have Hz := Lib.hid hz
    have Hki := Lib.hid hki
    have Hg := Lib.hid hg
    by_cases hlt : 0 ≤ z
    · have kA := Lib.hid (l20Things_any g (P + 1 + 20 * i) 2 wr (by omega) (by decide) (by decide) hr)
      have hz4 : z ≤ 4 := by omega
      clear h3 hr hg hz hki hn ho h4
      go_wp2_with fail
      refine (kA.out).mono ?_
      rintro ee w2 ⟨xs, gT, cT, hxl, rfl, hoT, hr2, hg2⟩
      have kB := Lib.hid (l20Things_any g (P + 1 + 20 * i + 6) 2 w2 (by omega) (by decide) (by decide) hr2)
      have HoT := Lib.hid hoT
      have Hg2 := Lib.hid hg2
      clear hxl hoT hr2 hg2
      go_wp2_with fail
      refine (kB.out).mono ?_
      rintro ee w3 ⟨ys, gG, cG, hyl, rfl, hoG, hr3, hg3⟩
      obtain ⟨W, hW, hB, hbW, hsW⟩ := box_two w3 (.slice (some ⟨gT, 0, none⟩) 3 cT) (.slice (some ⟨gG, 0, none⟩) 3 cG) 25
      have hgW := below_grown hbW (some g)
      have lT := HoT.out.lt gT rfl
      have lG := hoG.lt gG rfl
      have hs2 := Hg2.out.size
      have S0 : RSt w.heap.size g (P + 1 + 20 * i + 12) w3.heap.size gT cT gG cG wr W :=
        ⟨⟨xs, Joins.ownsRow_le (own_rd (own_rd HoT.out hg3 (by omega)) hgW (by omega)) hws⟩, ⟨ys, Joins.ownsRow_le (own_rd hoG hgW (by omega)) (by omega)⟩, hB, (hr3.kept (World.grownBy_alloc w3 (.cells #[.slice (some ⟨gT, 0, none⟩) 3 cT, .slice (some ⟨gG, 0, none⟩) 3 cG] 25) none) (fun k e => by cases e)).cast hW, grownBy_trans (grownBy_trans Hg2.out hg3) hgW, hgl, lT.1, by omega, by omega⟩
      have HS0 := Lib.hid S0
      have kC := Lib.hid (pick_any g (P + 1 + 20 * i + 12) 3 W (by omega) (by decide) (by decide) S0.rd)
      clear hB hbW hsW hgW lT lG hs2 S0 hyl hoG hr3 hg3
      go_wp2_with fail
      refine (kC.out).mono ?_
      rintro ee w4 ⟨q, rfl, _, hr4, hg4⟩
      have HS4 := Lib.hid (HS0.out.pick hg4 hr4)
      clear hr4 hg4
      go_upto_if 24 with fail
      go_cut [] (fun wx => RSt w.heap.size g (P + 1 + 20 * i + 15) w3.heap.size gT cT gG cG wr wx)
      case first =>
        by_cases hq : 0 < q
        · have kD := Lib.hid (pick_any g (P + 1 + 20 * i + 12 + 1) 3 w4 (by omega) (by decide) (by decide) HS4.out.rd)
          go_wp2_with fail
          refine (kD.out).mono ?_
          rintro ee w5 ⟨A0, rfl, hA, hr5, hg5⟩
          have hA0 := hA.1
          have hA1 := hA.2.1 (by decide)
          obtain ⟨A, rfl⟩ : ∃ A : Nat, A0 = A := ⟨A0.toNat, by omega⟩
          have hA3 : A < 3 := by omega
          have S5 := Lib.hid (HS4.out.pick hg5 hr5)
          have c5 := S5.out.box.c0
          have hs2g : ¬ w3.heap.size = g := by have h1 := S5.out.apart; have := hws; intro e; omega
          have kq := Lib.hid (pick_any g (P + 1 + 20 * i + 12 + 1 + 1) 2 w5.drew (by omega) (by decide) (by decide) (S5.out.rd.kept (grownBy_drew w5 none 1) (fun k e => by cases e)))
          clear hA hr5 hg5
          go_upto_region 8 with fail
          go_cut [] (fun wx => RSt w.heap.size g (P + 1 + 20 * i + 15) w3.heap.size gT cT gG cG wr wx)
          case first =>
            -- REGION
            refine wp_region_any (by kernel_rfl) ?_
            try (change wpAny _ _ _ _ _ _ _ (World.drew _))
            refine wpAny_take (oi := ⟨some 27, _, _, _, _, _⟩) (i := 0) (v := .pointer (some ⟨w3.heap.size, 0, none⟩)) rfl (by kernel_rfl) (by kernel_rfl) (by kernel_rfl) (fun _ _ _ h => h) (Or.inl ⟨by kernel_rfl, fun w => by go_simp⟩) ?_
            simp only [Act.put, List.setIfInBounds_toArray, List.set_cons_zero, List.set_cons_succ]
            refine wpAny_take (oi := ⟨some 29, _, _, _, _, _⟩) (i := 2) (v := .int .i64 (A : Int)) rfl (by kernel_rfl) (by kernel_rfl) (by kernel_rfl) (fun _ _ _ h => h) (Or.inl ⟨by kernel_rfl, fun w => by go_simp⟩) ?_
            simp only [Act.put, List.setIfInBounds_toArray, List.set_cons_zero, List.set_cons_succ]
            refine wpAny_take (oi := ⟨some 30, _, _, _, _, _⟩) (i := 3) (v := .pointer (some ⟨g, 0, none⟩)) rfl (by kernel_rfl) (by kernel_rfl) (by kernel_rfl) (fun _ _ _ h => h) (Or.inl ⟨by kernel_rfl, fun w => by go_simp⟩) ?_
            simp only [Act.put, List.setIfInBounds_toArray, List.set_cons_zero, List.set_cons_succ]
            refine wpAny_ready (rs := [1, 4]) (by kernel_rfl) (by simp) (AllReady.cons rfl (fun K hK => ?_) (AllReady.cons rfl (fun K hK => ?_) AllReady.nil))
            · go_simp
              refine hK _ _ ?_
              clear hK K
              refine wpAny_ready (rs := [4]) (by kernel_rfl) (by simp) (AllReady.cons rfl (fun K hK => ?_) AllReady.nil)
              go_simp
              go_wp2_with (first
                | (go_at_call 67; (refine (kq.out).mono ?_); rintro ee w6 ⟨b, rfl, hb, hr6, hg6⟩)
                | fail)
              have hb0 := hb.1
              have hb1 := hb.2.1 (by decide)
              have q1 : IntKind.i64.wrap (1 + b) = 1 + b := IntWalk.i64_in _ (by omega)
              refine wpAny_take (oi := ⟨some 32, _, _, _, _, _⟩) (i := 5) (v := .int .i64 (1 + b)) rfl (by kernel_rfl) (by kernel_rfl) (by kernel_rfl) (fun _ _ _ h => h) (Or.inl ⟨by kernel_rfl, fun w => by (go_simp; try rw [q1])⟩) ?_
              simp only [Act.put, List.setIfInBounds_toArray, List.set_cons_zero, List.set_cons_succ]
              refine wpAny_take (oi := ⟨some 33, _, _, _, _, _⟩) (i := 6) (v := .pointer (some ⟨gT, A, none⟩)) rfl (by kernel_rfl) (by kernel_rfl) (by kernel_rfl) (fun _ _ _ h => h) (Or.inl ⟨by kernel_rfl, fun w => by (go_simp; try simp [hA3])⟩) ?_
              simp only [Act.put, List.setIfInBounds_toArray, List.set_cons_zero, List.set_cons_succ]
              have S6 := S5.out.pick (g_drew hg6) hr6
              obtain ⟨u, hu⟩ := S6.cT (by omega : A < 3)
              have hfT := S6.fT A
              have S7 := Lib.hid (S6.setT A (1 + b))
              refine wpAny_ready (rs := [7]) (by kernel_rfl) (by simp) (AllReady.cons rfl (fun K hK => ?_) AllReady.nil)
              go_simp
              refine hK _ _ ?_
              clear hK K
              refine wpAny_done (by kernel_rfl) ?_ _
              go_wp2_with fail
              go_meet
              exact S7.out
            · go_simp
              go_wp2_with (first
                | (go_at_call 67; (refine (kq.out).mono ?_); rintro ee w6 ⟨b, rfl, hb, hr6, hg6⟩)
                | fail)
              have hb0 := hb.1
              have hb1 := hb.2.1 (by decide)
              have q1 : IntKind.i64.wrap (1 + b) = 1 + b := IntWalk.i64_in _ (by omega)
              refine wpAny_take (oi := ⟨some 32, _, _, _, _, _⟩) (i := 5) (v := .int .i64 (1 + b)) rfl (by kernel_rfl) (by kernel_rfl) (by kernel_rfl) (fun _ _ _ h => h) (Or.inl ⟨by kernel_rfl, fun w => by (go_simp; try rw [q1])⟩) ?_
              simp only [Act.put, List.setIfInBounds_toArray, List.set_cons_zero, List.set_cons_succ]
              have c6 := (g_drew hg6).cell c5 (fun e => hs2g (Option.some.inj e))
              refine wpAny_ready (rs := [1]) (by kernel_rfl) (by simp) (AllReady.cons rfl (fun K hK => ?_) AllReady.nil)
              go_simp
              refine hK _ _ ?_
              clear hK K
              refine wpAny_take (oi := ⟨some 33, _, _, _, _, _⟩) (i := 6) (v := .pointer (some ⟨gT, A, none⟩)) rfl (by kernel_rfl) (by kernel_rfl) (by kernel_rfl) (fun _ _ _ h => h) (Or.inl ⟨by kernel_rfl, fun w => by (go_simp; try simp [hA3])⟩) ?_
              simp only [Act.put, List.setIfInBounds_toArray, List.set_cons_zero, List.set_cons_succ]
              have S6 := S5.out.pick (g_drew hg6) hr6
              obtain ⟨u, hu⟩ := S6.cT (by omega : A < 3)
              have hfT := S6.fT A
              have S7 := Lib.hid (S6.setT A (1 + b))
              refine wpAny_ready (rs := [7]) (by kernel_rfl) (by simp) (AllReady.cons rfl (fun K hK => ?_) AllReady.nil)
              go_simp
              refine hK _ _ ?_
              clear hK K
              refine wpAny_done (by kernel_rfl) ?_ _
              go_wp2_with fail
              go_meet
              exact S7.out
            -- END REGION
          case rest =>
            obtain ⟨w7, rfl⟩ : ∃ w7 : World, w7 = wc := ⟨_, rfl⟩
            have HR := Lib.hid hcut
            clear hcut
            go_wp2_with fail
            go_loopg [9] (A + 1) (fun k v9 wy => ∃ j : Nat, v9 = .int .i64 j ∧ k + j = A + 1 ∧ RSt w.heap.size g (P + 1 + 20 * i + 15) w3.heap.size gT cT gG cG wr wy)
            case atStart => exact ⟨0, rfl, by omega, HR.out⟩
            case round =>
              obtain ⟨j, rfl, hkj, hS⟩ := hrel
              have Hkj := Lib.hid hkj
              have HS := Lib.hid hS
              by_cases hjA : j ≤ A
              · have y1 := hS.box.c1
                have hj3 : j < 3 := by omega
                obtain ⟨u, hu⟩ := hS.cG hj3
                have hf := hS.fG j
                have HN := Lib.hid (hS.setG j 0)
                clear hkj hS
                go_wp2_with fail
                go_roundg (gk - 1)
                case measure => have := Hkj.out; omega
                case rel => exact ⟨j + 1, by go_num, by have := Hkj.out; omega, HN.out⟩
              · clear hkj hS
                go_wp2_with fail
                go_meet
                exact HS.out
        · go_wp2_with fail
          go_meet
          exact HS4.out.pick (gb_none w4 g) (HS4.out.rd.mono (by omega))
      case rest =>
        obtain ⟨w7, rfl⟩ : ∃ w7 : World, w7 = wc := ⟨_, rfl⟩
        have HS7 := Lib.hid hcut
        have hT7 := HT.out.rd hcut.grown hgl
        obtain ⟨xs', hx'⟩ := hcut.take
        obtain ⟨ys', hy'⟩ := hcut.give
        have y0 := hcut.box.c0
        have y1 := hcut.box.c1
        have hw7 : w.heap.size ≤ w7.heap.size := Nat.le_trans hws hcut.grown.size
        obtain ⟨g7, c7, cs7, e7, hn7, ho7, h47⟩ := hT7
        cases e7
        have HO7 := Lib.hid ho7
        have HT7 := Lib.hid (show TsD w.heap.size w7 (.slice (some ⟨go', 0, none⟩) i co) i ts from ⟨go', co, cs7, rfl, hn7, ho7, h47⟩)
        have HX' := Lib.hid hx'
        have HY' := Lib.hid hy'
        clear hcut hx' hy' hn7 ho7 h47
        go_wp2_with (first
          | (at_builtin; refine wpList_append_own _ rfl (.tmp 43) (.tmp 45) 30 rfl w.heap.size 25 j0 _ 2 48 Try.underlying30 hj hy0 hy1 hy2 rfl (by decide) _ i cs7 rfl (HO7.out.alloc _) ⟨w7.heap.size, 0, none⟩ 1 1 [.slice (some ⟨gT, 0, none⟩) 3 cT, .slice (some ⟨gG, 0, none⟩) 3 cG] rfl rfl (cell_two_new _ _ _ _) (slices_oneCell _ _ _ _ _ _) (by unfold maxLen; omega) (by omega) (by simp; omega) ?_; intro v8 w8 ho8 hg8 _))
        obtain ⟨g8, c8, rfl⟩ := Joins.ownsRow_form ho8 (by omega)
        have hgo := (HO7.out.lt go' rfl).1
        have hfin : TsRel w g P K (gk - 1) (.slice (some ⟨g8, 0, none⟩) (i + 1) c8) (.int .i64 (z - 1)) w8 := by
          have hgB := World.grownBy_alloc w7 (.cells #[.slice (some ⟨gT, 0, none⟩) 3 cT, .slice (some ⟨gG, 0, none⟩) 3 cG] 25) (none : Option Nat)
          have hx3 : xs'.length = 3 := by have h1 := HX'.out.1; rw [ints_len] at h1; omega
          have hy3 : ys'.length = 3 := by have h1 := HY'.out.1; rw [ints_len] at h1; omega
          refine ⟨i + 1, z - 1, ts ++ [⟨xs', ys'⟩], rfl, by have := Hz.out; omega, by have := Hz.out; have := Hki.out; omega, ?_, HT7.out.push (t := ⟨xs', ys'⟩) HO7.out hg8 (by rw [show (⟨xs', ys'⟩ : Tr).take.length = 3 from hx3, show (⟨xs', ys'⟩ : Tr).give.length = 3 from hy3]; exact ho8) (by rw [show (⟨xs', ys'⟩ : Tr).take.length = 3 from hx3]; exact HX'.out) (by rw [show (⟨xs', ys'⟩ : Tr).give.length = 3 from hy3]; exact HY'.out), ?_, ?_⟩
          · intro t ht
            rcases List.mem_append.1 ht with h | h
            · exact H3.out t h
            · simp at h
              subst h
              exact ⟨by show xs'.length ≤ 3; omega, by show ys'.length ≤ 3; omega⟩
          · exact ((HS7.out.rd.kept hgB (fun k e => by cases e)).kept hg8 (fun k e => by cases e; exact Nat.lt_of_lt_of_le hgl hgo)).mono (by omega)
          · exact grownBy_step (grownBy_step (grownBy_trans Hg.out HS7.out.grown) hgB (fun k e => by cases e)) hg8 (fun k e => by cases e; exact .inr hgo)
        have Hfin := Lib.hid hfin
        clear hfin ho8 hg8 hgo
        go_wp2_with fail
        go_roundg (gk - 1)
        case measure => have := Hz.out; omega
        case rel => exact Hfin.out
    · have hi1 : 1 ≤ i := by have := HK1.out; have := Hki.out; have := Hz.out; omega
      have kO := Lib.hid (odd_any g (P + 1 + 20 * i) n wr (by omega) (by omega) (by omega) hr)
      have hi4' : ¬ (4 < (i : Int)) := by omega
      clear h3 hr hg hz hki hn ho h4
      go_wp2_with fail
      refine (kO.out).mono ?_
      rintro ee w2 ⟨b, rfl, hr2, hg2⟩
      have HT2 := Lib.hid (HT.out.rd hg2 hgl)
      have Hg2 := Lib.hid (grownBy_trans Hg.out hg2)
      have Hr2 := Lib.hid hr2
      clear hr2 hg2
      cases b with
      | false =>
        go_wp2_with fail
        go_ret
        exact ⟨ts, _, i, rfl, HT2.out, H3.out, hi1, by omega, Hr2.out.mono (by omega), Hg2.out⟩
      | true =>
        have kp := Lib.hid (pick_any g (P + 1 + 20 * i + 1) 3 w2 (by omega) (by decide) (by decide) Hr2.out)
        go_wp2_with fail
        refine (kp.out).mono ?_
        rintro ee w3 ⟨r, rfl, hr, hr3, hg3⟩
        have hr0 := hr.1
        have hr1 := hr.2.1 (by decide)
        have HT3 := Lib.hid (HT2.out.rd hg3 hgl)
        have Hg3 := Lib.hid (grownBy_trans Hg2.out hg3)
        have Hr3 := Lib.hid hr3
        clear hr hr3 hg3
        have hcase : r = 0 ∨ r = 1 ∨ r = 2 := by omega
        obtain ⟨t0, tl, b1, b2, d1, d2, rfl, y0, y1, r1, r2⟩ := HT3.out.head hi1
        have hgo : w.heap.size ≤ go' ∧ go' < w3.heap.size := by
          obtain ⟨g9, c9, cs9, e9, _, ho9, _⟩ := HT3.out
          cases e9
          exact ho9.lt go' rfl
        have hf : ∀ j, w3.frozen? ⟨go', j, none⟩ = false := by
          obtain ⟨g9, c9, cs9, e9, _, ho9, _⟩ := HT3.out
          cases e9
          exact fun j => ho9.frozenAt j
        have hw3 : w.heap.size ≤ w3.heap.size := Hg3.out.size
        have hset : ∀ (f : Nat) (ga : Nat) (zs : List Int) (vs : Array Value) (t' : Tr), vs = (ints zs).toArray → ga = w3.heap.size → ((f = 0 ∧ t' = ⟨zs, t0.give⟩) ∨ (f = 1 ∧ t' = ⟨t0.take, zs⟩)) → zs.length ≤ 3 → TsDrw w g P (.returned (.slice (some ⟨go', 0, none⟩) i co)) ((w3.setCell ⟨go', f, none⟩ (.slice (some ⟨ga, 0, none⟩) zs.length zs.length)).alloc (.cells vs 3)) := by
          rintro f ga zs vs t' rfl rfl hf hz
          rw [← World.setCell_alloc_past _ _ _ _ hgo.2]
          have hgB : w3.grownBy (w3.alloc (.cells (ints zs).toArray 3)) (none : Option Nat) := World.grownBy_alloc _ _ _
          have hgS := set_grown (w3.alloc (.cells (ints zs).toArray 3)) ⟨go', f, none⟩ (.slice (some ⟨w3.heap.size, 0, none⟩) zs.length zs.length)
          have hlit := World.ownsRow_lit (e := 3) (size := 1) w3 (ints zs).toArray zs.length (Nat.le_refl _) (by unfold maxLen; omega) (by simp [ints])
          have hl3 : ∀ t ∈ t' :: tl, t.take.length ≤ 3 ∧ t.give.length ≤ 3 := by
            intro t ht
            rcases List.mem_cons.1 ht with rfl | ht
            · have h0 := H3.out t0 (List.mem_cons_self ..)
              rcases hf with ⟨_, rfl⟩ | ⟨_, rfl⟩
              · exact ⟨hz, h0.2⟩
              · exact ⟨h0.1, hz⟩
            · exact H3.out t (List.mem_cons_of_mem _ ht)
          refine ⟨t' :: tl, _, i, rfl, (HT3.out.below ((Below.refl _ _).alloc (Nat.le_refl _) _)).set0 (by simpa using Joins.ownsRow_le hlit hw3) rfl hf, hl3, hi1, by omega, ?_, ?_⟩
          · exact ((Hr3.out.kept hgB (fun k e => by cases e)).kept hgS (fun k e => by cases e; exact Nat.lt_of_lt_of_le hgl hgo.1)).mono (by omega)
          · exact gs (gs Hg3.out hgB (fun k e => by cases e)) hgS (fun k e => by cases e; exact hgo.1)
        have Hset := Lib.hid hset
        clear hset r1 r2
        rcases hcase with rfl | rfl | rfl
        · have hc : (w3.alloc (.cells #[.int .i64 1] 3)).cell? ⟨go', 0, none⟩ = some (.slice b1 t0.take.length d1) := by rw [World.cell?_alloc_past _ _ _ hgo.2]; exact y0
          have hff : (w3.alloc (.cells #[.int .i64 1] 3)).frozen? ⟨go', 0, none⟩ = false := by rw [frozen?_alloc_cells]; exact hf 0
          clear hf
          go_wp2_with fail
          go_ret
          exact Hset.out 0 _ [1] _ ⟨[1], t0.give⟩ rfl rfl (.inl ⟨rfl, rfl⟩) (by decide)
        · have hc : (w3.alloc (.cells #[.int .i64 0, .int .i64 0, .int .i64 6] 3)).cell? ⟨go', 1, none⟩ = some (.slice b2 t0.give.length d2) := by rw [World.cell?_alloc_past _ _ _ hgo.2]; exact y1
          have hff : (w3.alloc (.cells #[.int .i64 0, .int .i64 0, .int .i64 6] 3)).frozen? ⟨go', 1, none⟩ = false := by rw [frozen?_alloc_cells]; exact hf 1
          clear hf
          go_wp2_with fail
          go_ret
          exact Hset.out 1 _ [0, 0, 6] _ ⟨t0.take, [0, 0, 6]⟩ rfl rfl (.inr ⟨rfl, rfl⟩) (by decide)
        · clear hf y0 y1 hgo
          go_wp2_with fail
          go_loopg [5] (5 - i) (fun k v5 wy => ∃ (m gz cz : Nat) (us : List Tr), v5 = .slice (some ⟨gz, 0, none⟩) m cz ∧ k + m = 5 ∧ 1 ≤ m ∧ T3 us ∧ TsD w.heap.size wy v5 m us ∧ RdOk wy g (P + 1 + 20 * i + 1 + 1) ∧ w.grownBy wy (some g))
          case atStart => exact ⟨i, go', co, t0 :: tl, rfl, by omega, hi1, H3.out, HT3.out, Hr3.out, Hg3.out⟩
          case round =>
            obtain ⟨m, gz, cz, us, rfl, hkm, hm1, hu3, hTu, hru, hgu⟩ := hrel
            have Hkm := Lib.hid hkm
            have HU3 := Lib.hid hu3
            have HTu := Lib.hid hTu
            have Hru := Lib.hid hru
            have Hgu := Lib.hid hgu
            have hm5 : m ≤ 5 := by omega
            by_cases hm : m ≤ 4
            · obtain ⟨t1, tl1, p1, p2, f1, f2, e9, z0, z1, q1, q2⟩ := hTu.head hm1
              obtain ⟨g9, c9, cs9, e10, hn9, ho9, _⟩ := hTu
              cases e10
              have HO9 := Lib.hid ho9
              have HQ1 := Lib.hid q1
              have HQ2 := Lib.hid q2
              have E9 := Lib.hid e9
              have hwr' : w.heap.size ≤ wr.heap.size := hgu.size
              have hgz := (ho9.lt gz rfl).1
              clear hkm hu3 hru hgu q1 q2 e9 hn9 ho9
              go_wp2_with (first
                | (at_builtin; refine wpList_append_own _ rfl (.tmp 60) (.tmp 64) 30 rfl w.heap.size 25 j0 _ 2 48 Try.underlying30 hj hy0 hy1 hy2 rfl (by decide) _ m cs9 rfl (HO9.out.alloc _) ⟨wr.heap.size, 0, none⟩ 1 1 [.slice p1 t1.take.length f1, .slice p2 t1.give.length f2] rfl rfl (cell_two_new _ _ _ _) (slices_oneCell _ _ _ _ _ _) (by unfold maxLen; omega) (by omega) (by simp; omega) ?_; intro v8 w8 ho8 hg8 _))
              obtain ⟨g8, c8, rfl⟩ := Joins.ownsRow_form ho8 (by omega)
              have hfin : ∃ (m' gz' cz' : Nat) (us' : List Tr), Value.slice (some ⟨g8, 0, none⟩) (m + 1) c8 = .slice (some ⟨gz', 0, none⟩) m' cz' ∧ gk - 1 + m' = 5 ∧ 1 ≤ m' ∧ T3 us' ∧ TsD w.heap.size w8 (.slice (some ⟨g8, 0, none⟩) (m + 1) c8) m' us' ∧ RdOk w8 g (P + 1 + 20 * i + 1 + 1) ∧ w.grownBy w8 (some g) := by
                have hgB := World.grownBy_alloc wr (.cells #[.slice p1 t1.take.length f1, .slice p2 t1.give.length f2] 25) (none : Option Nat)
                refine ⟨m + 1, g8, c8, us ++ [t1], rfl, by have := Hkm.out; omega, by omega, ?_, HTu.out.push HO9.out hg8 ho8 HQ1.out HQ2.out, ?_, ?_⟩
                · intro t ht
                  rcases List.mem_append.1 ht with h | h
                  · exact HU3.out t h
                  · simp at h
                    subst h
                    exact HU3.out t (by rw [E9.out]; exact List.mem_cons_self ..)
                · exact (Hru.out.kept hgB (fun k e => by cases e)).kept hg8 (fun k e => by cases e; exact Nat.lt_of_lt_of_le hgl hgz)
                · exact gs (gs Hgu.out hgB (fun k e => by cases e)) hg8 (fun k e => by cases e; exact hgz)
              have Hfin := Lib.hid hfin
              clear hfin ho8 hg8 hgz z0 z1
              go_wp2_with fail
              go_roundg (gk - 1)
              case measure => have := Hkm.out; omega
              case rel => exact Hfin.out
            · obtain rfl : m = 5 := by omega
              have hfin : TsDrw w g P (.returned (.slice (some ⟨gz, 0, none⟩) 5 cz)) wr := ⟨us, _, 5, rfl, hTu, hu3, by decide, by decide, hru.mono (by omega), hgu⟩
              have Hfin := Lib.hid hfin
              clear hfin hkm hu3 hTu hru hgu
              go_wp2_with fail
              go_ret
              exact Hfin.out

end Go.Proofs.Ytgcdbndnpcfcnaa

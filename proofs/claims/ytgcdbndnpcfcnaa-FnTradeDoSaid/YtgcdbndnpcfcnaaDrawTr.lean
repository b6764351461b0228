/- What the laws of chapter 8 draw: heaps, things, rules. -/
import Derived.Test.YtgcdbndnpcfcnaaTrS
import Derived.Test.YtgcdbndnpcfcnaaDraw0D
import Derived.Test.YtgcdbndnpcfcnaaRdKit
import Derived.Deep.CutBlock
import Derived.Deep.DeepCutAuto
import Derived.Deep.LoopGhost
namespace Go.Proofs.Ytgcdbndnpcfcnaa
set_option maxRecDepth 100000
open Go.RowKit

/-- A list that was drawn. -/
def HpDrw (w : World) (g P : Nat) (e : Ending) (w' : World) : Prop :=
  ∃ (xs : List Int) (g' n c : Nat), n = xs.length ∧ e = .returned (.slice (some ⟨g', 0, none⟩) n c) ∧ w'.ownsRow w.heap.size 3 1 (.slice (some ⟨g', 0, none⟩) n c) n (ints xs) ∧
    n ≤ 3 ∧ RdOk w' g (P + 10) ∧ w.grownBy w' (some g)

theorem own_take {w : World} {B e size g n c m : Nat} {xs : List Value} (h : w.ownsRow B e size (.slice (some ⟨g, 0, none⟩) n c) n xs) (hm : m ≤ n) : w.ownsRow B e size (.slice (some ⟨g, 0, none⟩) m c) m (xs.take (m * size)) := by
  have hle : m * size ≤ n * size := Nat.mul_le_mul_right _ hm
  refine ⟨by rw [List.length_take, h.1]; omega, ?_⟩
  rcases h.2 with ⟨h1, _⟩ | ⟨g', c', cur, h1, h2, h3, h4, h5, h6, h7⟩
  · cases h1
  · cases h1
    exact .inr ⟨g, c, cur, rfl, h2, h3, by omega, h5, h6, by rw [← h7, List.take_take, Nat.min_eq_left hle]⟩

theorem set_grown (w : World) (p : Addr) (v : Value) : w.grownBy (w.setCell p v) (some p.block) :=
  ⟨rfl, rfl, rfl, by simp [World.setCell], fun k _ hk => heap_setCell_other w p k v (fun e => hk (by simp [e]))⟩

set_option maxHeartbeats 4000000 in
theorem l20Heaps_any (g P : Nat) (n : Int) (w : World) (hP : P ≤ 90000000) (hn0 : 0 ≤ n) (hn1 : n ≤ 1000000) (hrd : RdOk w g P) :
    Calls Try.prog 55 #[.pointer (some ⟨g, 0, none⟩), .int .i64 n] w (HpDrw w g P) := by
  have hgl : g < w.heap.size := by obtain ⟨_, _, _, _, h1, _⟩ := hrd; exact (Array.getElem?_eq_some_iff.1 h1).1
  have k1 := Lib.hid (pick_any g P 4 w (by omega) (by decide) (by decide) hrd)
  clear hrd
  go_enter Try.func55, Try.ntmps55
  go_wp2_with fail
  refine (k1.out).mono ?_
  rintro ee w1 ⟨x1, rfl, hx1, hr1, hg1⟩
  have k2 := Lib.hid (pick_any g (P + 1) 4 w1 (by omega) (by decide) (by decide) hr1)
  have Hg1 := Lib.hid hg1
  clear hx1 hr1 hg1
  go_wp2_with fail
  refine (k2.out).mono ?_
  rintro ee w2 ⟨x2, rfl, hx2, hr2, hg2⟩
  have k3 := Lib.hid (pick_any g (P + 1 + 1) 5 w2 (by omega) (by decide) (by decide) hr2)
  have Hg2 := Lib.hid (grownBy_trans Hg1.out hg2)
  clear hx2 hr2 hg2
  go_wp2_with fail
  refine (k3.out).mono ?_
  rintro ee w3 ⟨x3, rfl, hx3, hr3, hg3⟩
  have Hg3 := Lib.hid (grownBy_trans Hg2.out hg3)
  obtain ⟨W, hW⟩ : ∃ W, w3.alloc (.cells #[.int .i64 x1, .int .i64 x2, .int .i64 x3] 3) = W := ⟨_, rfl⟩
  have hgW : w3.grownBy W none := by rw [← hW]; exact World.grownBy_alloc w3 _ none
  have hoW : W.ownsRow w3.heap.size 3 1 (.slice (some ⟨w3.heap.size, 0, none⟩) 3 3) 3 (ints [x1, x2, x3]) := by rw [← hW]; exact World.ownsRow_lit w3 #[.int .i64 x1, .int .i64 x2, .int .i64 x3] 3 (Nat.le_refl _) (by simp [maxLen]) rfl
  have HgW := Lib.hid (gs Hg3.out hgW (fun k hk => by cases hk))
  have HrW := Lib.hid (hr3.kept hgW (fun k hk => by cases hk))
  have HoW := Lib.hid hoW
  have Hs3 := Lib.hid Hg3.out.size
  have ko := Lib.hid (odd_any g (P + 1 + 1 + 1) n W (by omega) (by omega) (by omega) HrW.out)
  clear hx3 hr3 hg3 hgW hoW
  go_wp2_with fail
  refine (ko.out).mono ?_
  rintro ee w6 ⟨b, rfl, hr6, hg6⟩
  have Hg6 := Lib.hid (grownBy_trans HgW.out hg6)
  have Ho6 := Lib.hid (own_rd HoW.out hg6 (Nat.lt_of_lt_of_le hgl Hs3.out))
  have Hr6 := Lib.hid hr6
  clear hr6 hg6 hW
  cases b with
  | false =>
    go_wp2_with fail
    go_ret
    exact ⟨[x1, x2, x3], _, 3, 3, rfl, rfl, Joins.ownsRow_le Ho6.out Hs3.out, by decide, Hr6.out.mono (by omega), Hg6.out⟩
  | true =>
    have kp := Lib.hid (pick_any g (P + 1 + 1 + 1 + 1) 3 w6 (by omega) (by decide) (by decide) Hr6.out)
    go_wp2_with fail
    refine (kp.out).mono ?_
    rintro ee w7 ⟨r, rfl, hr7, hrd7, hg7⟩
    have hr70 := hr7.1
    have hr71 := hr7.2.1 (by decide)
    have Hg7 := Lib.hid (grownBy_trans Hg6.out hg7)
    have Ho7 := Lib.hid (own_rd Ho6.out hg7 (Nat.lt_of_lt_of_le hgl Hs3.out))
    have Hr7 := Lib.hid hrd7
    have hf1 := Ho7.out.frozenAt 1
    have hf2 := Ho7.out.frozenAt 2
    have hc1 : w7.cell? ⟨w3.heap.size, 1, none⟩ = some (.int .i64 x2) := by rw [Ho7.out.cellAt 1 (by decide)]; rfl
    have hc2 : w7.cell? ⟨w3.heap.size, 2, none⟩ = some (.int .i64 x3) := by rw [Ho7.out.cellAt 2 (by decide)]; rfl
    have hset : ∀ (j : Nat) (z : Int) (ys : List Int), (ints [x1, x2, x3]).set j (.int .i64 z) = ints ys → ys.length = 3 → HpDrw w g P (.returned (.slice (some ⟨w3.heap.size, 0, none⟩) 3 3)) (w7.setCell ⟨w3.heap.size, j, none⟩ (.int .i64 z)) := by
      intro j z ys he hl
      have h7 := (Ho7.out.stored j (.int .i64 z)).1
      rw [he] at h7
      have hg := set_grown w7 ⟨w3.heap.size, j, none⟩ (.int .i64 z)
      have hlt : g < w3.heap.size := Nat.lt_of_lt_of_le hgl Hs3.out
      exact ⟨ys, _, 3, 3, hl.symm, rfl, Joins.ownsRow_le h7 Hs3.out, by decide, (Hr7.out.kept hg (fun k hk => by cases hk; exact hlt)).mono (by omega), gs Hg7.out hg (fun k hk => by cases hk; exact Hs3.out)⟩
    have Hset := Lib.hid hset
    clear hr7 hrd7 hg7 hset
    have hcase : r = 0 ∨ r = 1 ∨ r = 2 := by omega
    rcases hcase with rfl | rfl | rfl
    · go_wp2_with fail
      go_ret
      exact ⟨[x1, x2], _, 2, 3, rfl, rfl, Joins.ownsRow_le (own_take Ho7.out (m := 2) (by decide)) Hs3.out, by decide, Hr7.out.mono (by omega), Hg7.out⟩
    · go_wp2_with fail
      go_ret
      exact Hset.out 1 41 [x1, 41, x3] rfl rfl
    · go_wp2_with fail
      go_ret
      exact Hset.out 2 (-1) [x1, x2, -1] rfl rfl

/-- Things that were drawn. -/
def ThDrw (w : World) (g P : Nat) (e : Ending) (w' : World) : Prop :=
  ∃ (xs : List Int) (g' c : Nat), xs.length = 3 ∧ e = .returned (.slice (some ⟨g', 0, none⟩) 3 c) ∧ w'.ownsRow w.heap.size 3 1 (.slice (some ⟨g', 0, none⟩) 3 c) 3 (ints xs) ∧ RdOk w' g (P + 6) ∧ w.grownBy w' (some g)

def ThRel (w : World) (g P k : Nat) (v5 v6 : Value) (wr : World) : Prop :=
  ∃ (i : Nat) (xs : List Int) (g1 c1 : Nat), v6 = .int .i64 i ∧ k + i = 3 ∧ xs.length = i ∧ v5 = .slice (some ⟨g1, 0, none⟩) i c1 ∧ wr.ownsRow w.heap.size 3 1 v5 i (ints xs) ∧ RdOk wr g (P + 2 * i) ∧ w.grownBy wr (some g)

set_option maxHeartbeats 4000000 in
theorem l20Things_any (g P : Nat) (m : Int) (w : World) (hP : P ≤ 90000000) (hm0 : 0 ≤ m) (hm1 : m ≤ 1000) (hrd : RdOk w g P) :
    Calls Try.prog 76 #[.pointer (some ⟨g, 0, none⟩), .int .i64 m] w (ThDrw w g P) := by
  obtain ⟨i0, hi, hz0, hz1, hz2⟩ := info_parts info_int
  have hgl : g < w.heap.size := by obtain ⟨_, _, _, _, h1, _⟩ := hrd; exact (Array.getElem?_eq_some_iff.1 h1).1
  have hst : ThRel w g P 3 (.slice (some ⟨w.heap.size, 0, none⟩) 0 0) (.int .i64 (0 : Nat)) (w.alloc (.cells #[] 3)) :=
    ⟨0, [], w.heap.size, 0, rfl, rfl, rfl, rfl, World.ownsRow_lit w #[] 0 (Nat.le_refl _) (by simp [maxLen]) rfl, hrd.kept (World.grownBy_alloc w _ none) (fun k hk => by cases hk), World.grownBy_alloc w _ _⟩
  have Hst := Lib.hid hst
  clear hrd hst
  go_enter Try.func76, Try.ntmps76
  go_wp2_with fail
  go_loopg [5, 6] 3 (fun k v5 v6 wr => ThRel w g P k v5 v6 wr)
  case atStart => exact Hst.out
  case round =>
    obtain ⟨i, xs, g1, c1, rfl, hk, hxl, rfl, ho, hr, hg⟩ := hrel
    have Hk := Lib.hid hk
    have Hxl := Lib.hid hxl
    have Ho := Lib.hid ho
    have Hg := Lib.hid hg
    have hil : i ≤ 3 := by omega
    have hws : w.heap.size ≤ wr.heap.size := hg.size
    by_cases hlt : i < 3
    · have kp := Lib.hid (pick_any g (P + 2 * i) 2 wr (by omega) (by decide) (by decide) hr)
      clear hk hxl ho hr hg
      go_wp2_with fail
      refine (kp.out).mono ?_
      rintro ee w1 ⟨x, rfl, hx, hrd1, hg1⟩
      have kq := Lib.hid (pick_any g (P + 2 * i + 1) (m + 1) w1 (by omega) (by omega) (by omega) hrd1)
      have Hg1 := Lib.hid (grownBy_trans Hg.out hg1)
      have Ho1 := Lib.hid (own_rd Ho.out hg1 hgl)
      have hx0 := hx.1
      have hx1 := hx.2.1 (by decide)
      clear hx hrd1 hg1
      go_wp2_with fail
      refine (kq.out).mono ?_
      rintro ee w2 ⟨y, rfl, hy, hrd2, hg2⟩
      have HoA := Lib.hid (own_rd Ho1.out hg2 hgl)
      have HgA := Lib.hid (grownBy_trans Hg1.out hg2)
      have Hrd2 := Lib.hid hrd2
      have hw2 : w.heap.size ≤ w2.heap.size := HgA.out.size
      have hy0 := hy.1
      have hy1 := hy.2.1 (by omega)
      obtain ⟨u, hu⟩ : ∃ u, u = x * y := ⟨_, rfl⟩
      have hu01 : 0 ≤ u ∧ u ≤ 1000 := by
        have hx2 : x = 0 ∨ x = 1 := by omega
        rcases hx2 with rfl | rfl <;> simp at hu <;> omega
      have hu0 := hu01.1
      have hu1 := hu01.2
      have hq' : IntKind.i64.wrap (x * y) = u := by rw [← hu]; exact IntWalk.i64_in _ (by omega)
      clear hy hrd2 hg2 hu01 hu
      go_wp2_with (first
        | (at_builtin; refine wpList_append_own _ rfl (.tmp 12) (.tmp 20) 23 rfl w.heap.size 3 i0 (.int .i64 0) 1 8 Try.underlying23 hi hz0 hz1 hz2 rfl (by decide) _ i (ints xs) rfl (HoA.out.alloc _) ⟨w2.heap.size, 0, none⟩ 1 1 [.int .i64 u] rfl rfl (cell_one_new _ _ _) (ints_oneCell _ [u]) (by unfold maxLen; omega) (by omega) (by simp; omega) ?_; intro v2' w3 ho3 hg3 _))
      obtain ⟨g6, c6, rfl⟩ := Joins.ownsRow_form ho3 (by omega)
      have hfin : ThRel w g P (gk - 1) (.slice (some ⟨g6, 0, none⟩) (i + 1) c6) (.int .i64 ((i : Int) + 1)) w3 := by
        have hgB : w2.grownBy (w2.alloc (.cells #[.int .i64 u] 3)) none := World.grownBy_alloc w2 _ none
        have hrw : ∀ k, Value.ownBlock (.slice (some ⟨g1, 0, none⟩) i c1) = some k → w.heap.size ≤ k := fun k hk => (HoA.out.lt k hk).1
        refine ⟨i + 1, xs ++ [u], g6, c6, by go_num, by have := Hk.out; omega, by rw [List.length_append, Hxl.out]; rfl, rfl, by simpa [ints] using ho3, ?_, grownBy_step (grownBy_step HgA.out hgB (fun k hk => by cases hk)) hg3 (fun k hk => .inr (hrw k hk))⟩
        exact ((Hrd2.out.kept hgB (fun k hk => by cases hk)).kept hg3 (fun k hk => by have := hrw k hk; omega)).mono (by omega)
      have Hfin := Lib.hid hfin
      clear hfin ho3 hg3
      go_wp2_with fail
      go_roundg (gk - 1)
      case measure => have := Hk.out; omega
      case rel => exact Hfin.out
    · obtain rfl : i = 3 := by omega
      have Hf := Lib.hid (show ThDrw w g P (.returned (.slice (some ⟨g1, 0, none⟩) 3 c1)) wr from ⟨xs, g1, c1, hxl, rfl, ho, hr, hg⟩)
      clear hk hxl ho hr hg
      go_wp2_with fail
      go_ret
      exact Hf.out

/-- Rules that were drawn: the slice's block and all rows are the call's own (rows may be shared). -/
def TsD (B : Nat) (w : World) (v : Value) (n : Nat) (ts : List Tr) : Prop :=
  ∃ g c cs, v = .slice (some ⟨g, 0, none⟩) n c ∧ n = ts.length ∧ w.ownsRow B 25 2 v n cs ∧ ∀ k t, ts[k]? = some t → (∃ a1 c1, cs[k * 2]? = some (.slice a1 t.take.length c1) ∧ w.ownsRow B 3 1 (.slice a1 t.take.length c1) t.take.length (ints t.take)) ∧
      (∃ a2 c2, cs[k * 2 + 1]? = some (.slice a2 t.give.length c2) ∧ w.ownsRow B 3 1 (.slice a2 t.give.length c2) t.give.length (ints t.give))

/-- All rows of rules have at most three numbers. -/
def T3 (ts : List Tr) : Prop := ∀ t ∈ ts, t.take.length ≤ 3 ∧ t.give.length ≤ 3

theorem TsD.slT {B : Nat} {w : World} {v : Value} {n : Nat} {ts : List Tr} (h : TsD B w v n ts) : ∃ g c, v = .slice (some ⟨g, 0, none⟩) n c ∧ SlT w (some ⟨g, 0, none⟩) n c ts := by
  obtain ⟨g, c, cs, rfl, hn, h3, h4⟩ := h
  have hcap : n ≤ c ∧ c ≤ maxLen := by
    rcases h3.2 with ⟨h, _⟩ | ⟨g', cap, cur, h, _, _, hm1, hm, _⟩
    · cases h
    · cases h
      exact ⟨hm1, hm⟩
  refine ⟨g, c, rfl, hn.symm, hcap.1, hcap.2, fun _ => ⟨g, 0, rfl, fun k t hk => ?_⟩⟩
  have hkn : k < n := by rw [hn]; exact (List.getElem?_eq_some_iff.1 hk).1
  obtain ⟨⟨a1, c1, e1, o1⟩, a2, c2, e2, o2⟩ := h4 k t hk
  refine ⟨a1, _, c1, a2, _, c2, ?_, ?_, Sl.of_own o1, Sl.of_own o2⟩
  · rw [Nat.zero_add, h3.cellAt _ (by omega)]; exact e1
  · rw [Nat.zero_add, h3.cellAt _ (by omega)]; exact e2

theorem TsD.kept {B : Nat} {w w' : World} {v : Value} {n : Nat} {ts : List Tr} (h : TsD B w v n ts) (hk : ∀ i, B ≤ i → i < w.heap.size → w'.heap[i]? = w.heap[i]?) : TsD B w' v n ts := by
  have key : ∀ {e size : Nat} {v : Value} {n : Nat} {xs : List Value}, w.ownsRow B e size v n xs → w'.ownsRow B e size v n xs := by
    intro e size v n xs ho
    refine ⟨ho.1, ?_⟩
    rcases ho.2 with h2 | ⟨g, cap, cur, hv, hg, hh, r⟩
    · exact .inl h2
    · exact .inr ⟨g, cap, cur, hv, hg, by rw [hk g hg (Array.getElem?_eq_some_iff.1 hh).1]; exact hh, r⟩
  obtain ⟨g, c, cs, rfl, hn, h3, h4⟩ := h
  refine ⟨g, c, cs, rfl, hn, key h3, fun k t ht => ?_⟩
  obtain ⟨⟨a1, c1, e1, o1⟩, a2, c2, e2, o2⟩ := h4 k t ht
  exact ⟨⟨a1, c1, e1, key o1⟩, a2, c2, e2, key o2⟩

theorem TsD.rd {B g : Nat} {w w' : World} {v : Value} {n : Nat} {ts : List Tr} (h : TsD B w v n ts) (hg : w.grownBy w' (some g)) (hB : g < B) : TsD B w' v n ts :=
  h.kept (fun i h1 h2 => hg.block i h2 (fun e => by cases e; omega))
theorem TsD.below {B : Nat} {w w' : World} {v : Value} {n : Nat} {ts : List Tr} (h : TsD B w v n ts) (hb : Below w.heap.size w w') : TsD B w' v n ts :=
  h.kept (fun i _ h2 => hb.block i h2)
theorem TsD.mono {B B' : Nat} {w : World} {v : Value} {n : Nat} {ts : List Tr} (h : TsD B w v n ts) (hB : B' ≤ B) : TsD B' w v n ts := by
  obtain ⟨g, c, cs, rfl, hn, h3, h4⟩ := h
  refine ⟨g, c, cs, rfl, hn, Joins.ownsRow_le h3 hB, fun k t ht => ?_⟩
  obtain ⟨⟨a1, c1, e1, o1⟩, a2, c2, e2, o2⟩ := h4 k t ht
  exact ⟨⟨a1, c1, e1, Joins.ownsRow_le o1 hB⟩, a2, c2, e2, Joins.ownsRow_le o2 hB⟩

/-- One more rule: behind the append. -/
theorem TsD.app {B g c : Nat} {w : World} {n : Nat} {ts : List Tr} {cs : List Value} {a1 a2 : Option Addr} {c1 c2 : Nat} {t : Tr} (hn : n = ts.length) (ho : w.ownsRow B 25 2 (.slice (some ⟨g, 0, none⟩) (n + 1) c) (n + 1) (cs ++ [.slice a1 t.take.length c1, .slice a2 t.give.length c2])) (hcs : cs.length = n * 2)
    (h4 : ∀ k t, ts[k]? = some t → (∃ a1 c1, cs[k * 2]? = some (.slice a1 t.take.length c1) ∧ w.ownsRow B 3 1 (.slice a1 t.take.length c1) t.take.length (ints t.take)) ∧
      (∃ a2 c2, cs[k * 2 + 1]? = some (.slice a2 t.give.length c2) ∧ w.ownsRow B 3 1 (.slice a2 t.give.length c2) t.give.length (ints t.give)))
    (o1 : w.ownsRow B 3 1 (.slice a1 t.take.length c1) t.take.length (ints t.take)) (o2 : w.ownsRow B 3 1 (.slice a2 t.give.length c2) t.give.length (ints t.give)) :
    TsD B w (.slice (some ⟨g, 0, none⟩) (n + 1) c) (n + 1) (ts ++ [t]) := by
  refine ⟨g, c, _, rfl, by rw [List.length_append, hn]; rfl, ho, fun k t' ht => ?_⟩
  by_cases hk : k < n
  · rw [List.getElem?_append_left (by omega)] at ht
    obtain ⟨⟨b1, d1, e1, q1⟩, b2, d2, e2, q2⟩ := h4 k t' ht
    exact ⟨⟨b1, d1, by rw [List.getElem?_append_left (by omega)]; exact e1, q1⟩, b2, d2, by rw [List.getElem?_append_left (by omega)]; exact e2, q2⟩
  · have hkn : k = n := by
      have h1 := (List.getElem?_eq_some_iff.1 ht).1
      rw [List.length_append, ← hn] at h1
      simp at h1
      omega
    subst hkn
    rw [List.getElem?_append_right (by omega), ← hn, Nat.sub_self] at ht
    simp at ht
    subst ht
    refine ⟨⟨a1, c1, ?_, o1⟩, a2, c2, ?_, o2⟩
    · rw [List.getElem?_append_right (by omega), hcs, Nat.sub_self]; rfl
    · rw [List.getElem?_append_right (by omega), hcs, show k * 2 + 1 - k * 2 = 1 by omega]; rfl

end Go.Proofs.Ytgcdbndnpcfcnaa

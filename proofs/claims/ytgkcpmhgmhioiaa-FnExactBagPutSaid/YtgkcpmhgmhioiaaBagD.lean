/- Multisets: what one has more than another one, and whether it is below, by the program. -/
import Derived.Test.YtgkcpmhgmhioiaaBagC
namespace Go.Proofs.Ytgkcpmhgmhioiaa
set_option maxRecDepth 100000
open Go.RowKit

/-- A slice without its first number. -/
theorem Sl.tail1 {w : World} {b off q c : Nat} {y : Int} {t : List Int} (h : Sl w (some ⟨b, off, none⟩) (q + 1) c (y :: t)) (hc : c = 1) : Sl w (some ⟨b, off, none⟩) 0 0 t ∧ q = 0 := by
  have h1 := h.1
  have h2 := h.2.1
  have hq : q = 0 := by omega
  subst hq
  have ht : t = [] := List.length_eq_zero_iff.1 (by simpa using h1)
  subst ht
  exact ⟨⟨rfl, Nat.le_refl _, Nat.zero_le _, fun h => by omega⟩, rfl⟩
theorem Sl.tail2 {w : World} {b off q c : Nat} {y : Int} {t : List Int} (h : Sl w (some ⟨b, off, none⟩) (q + 1) c (y :: t)) : Sl w (some ⟨b, off + 1, none⟩) q (c - 1) t := by
  have h1 := h.1
  have h2 := h.2.1
  have h3 := h.2.2.1
  refine ⟨by simpa using h1, by omega, by omega, fun _ => ⟨b, off + 1, rfl, ?_⟩⟩
  obtain ⟨b', o', he, hat⟩ := h.2.2.2 (by omega)
  cases he
  have h4 := hat.drop 1
  exact h4

def WoRel (w : World) (xs ys : List Int) (n1 gk : Nat) (v1 v5 v10 : Value) (wr : World) : Prop :=
  ∃ (i k : Nat) (a2 : Option Addr) (n2 c2 : Nat) (zs : List Int) (a5 : Option Addr) (c5 : Nat) (ls : List Int), v10 = .int .i64 i ∧ gk + i = n1 ∧ v1 = .slice a2 n2 c2 ∧ Sl w a2 n2 c2 zs ∧ v5 = .slice a5 k c5 ∧
    wr.ownsRow w.heap.size 3 1 v5 k (ints ls) ∧ ls.length = k ∧ k ≤ i ∧ Hid (wo xs ys = ls ++ wo (xs.drop i) zs) ∧ Below w.heap.size w wr

set_option maxHeartbeats 8000000 in
theorem without_any (a1 a2 : Option Addr) (n1 c1 n2 c2 : Nat) (xs ys : List Int) (w : World) (hn : n1 ≤ 100) (_hn2 : n2 ≤ 100) (hx : Sl w a1 n1 c1 xs) (hy : Sl w a2 n2 c2 ys) :
    Calls Try.prog 64 #[.slice a1 n1 c1, .slice a2 n2 c2] w fun e w' => ∃ a c, e = .returned (.slice a (wo xs ys).length c) ∧ w'.ownsRow w.heap.size 3 1 (.slice a (wo xs ys).length c) (wo xs ys).length (ints (wo xs ys)) ∧ Below w.heap.size w w' := by
  obtain ⟨i0, hi, hz0, hz1, hz2⟩ := info_parts info_int
  have HX := Lib.hid hx
  have X1 := Lib.hid hx.1
  have hst : WoRel w xs ys n1 n1 (.slice a2 n2 c2) (.slice none 0 0) (.int .i64 (0 : Nat)) w := ⟨0, 0, a2, n2, c2, ys, none, 0, [], rfl, rfl, rfl, hy, rfl, ⟨rfl, .inl ⟨rfl, rfl⟩⟩, rfl, Nat.le_refl _, Lib.hid rfl, Below.refl _ _⟩
  have Hst := Lib.hid hst
  clear hx hy hst
  go_enter Try.func64, Try.ntmps64
  go_wp2_with fail
  go_loopg [1, 5, 7, 10] n1 (fun gk v1 v5 _ v10 wr => WoRel w xs ys n1 gk v1 v5 v10 wr)
  case atStart => exact Hst.out
  case round =>
    obtain ⟨i, k, a2, n2, c2, zs, a5, c5, ls, rfl, hgk, rfl, hs, rfl, ho, hls, hki, HW, hb⟩ := hrel
    obtain ⟨gA, rfl⟩ : ∃ gA, gA = gk := ⟨_, rfl⟩
    obtain ⟨wB, rfl⟩ : ∃ wB : World, wB = wr := ⟨_, rfl⟩
    have Hgk := Lib.hid hgk
    have Hls := Lib.hid hls
    have Ho := Lib.hid ho
    have Hb := Lib.hid hb
    have hwB := hb.size
    have hin : i ≤ n1 := by omega
    have hk100 : k ≤ 100 := by omega
    by_cases hlt : i < n1
    · obtain ⟨b, off, rfl, hat⟩ := HX.out.2.2.2 (by omega)
      obtain ⟨x, xt, hdx, hdx1⟩ := drop_cons (xs := xs) (a := i) (by rw [X1.out]; exact hlt)
      have hbl : b < w.heap.size := hat.lt (by intro h9; rw [h9] at hdx; simp at hdx)
      have y0 := (hat.below hb hbl).get hdx
      have Hdx := Lib.hid hdx
      have Hdx1 := Lib.hid hdx1
      have Hs := Lib.hid hs
      clear hgk hls ho hb hs hat hdx hdx1
      go_wp2_with fail
      go_loopg [1] n2 (fun gk v1 wr => ∃ (a : Option Addr) (c : Nat) (zs2 : List Int), v1 = .slice a gk c ∧ Sl w a gk c zs2 ∧ Hid (dropG x zs2 = dropG x zs) ∧ wB = wr)
      case atStart => exact ⟨a2, c2, zs, rfl, Hs.out, Lib.hid rfl, rfl⟩
      case round =>
        obtain ⟨a2, c2, zs2, rfl, hs2, HG0, rfl⟩ := hrel
        cases zs2 with
        | nil =>
          obtain rfl : gk = 0 := by have := hs2.1; simpa using this.symm
          have HG := Lib.hid (show dropG x zs = [] from HG0.out.symm)
          have HS0 := Lib.hid hs2
          clear hs2 HG0 Hs
          have hwo : wo (xs.drop i) zs = x :: wo (xs.drop (i + 1)) [] := by rw [Hdx.out, Hdx1.out, wo, HG.out, if_neg (by simp)]
          have Hwo := Lib.hid (show wo xs ys = (ls ++ [x]) ++ wo (xs.drop (i + 1)) [] by rw [HW.out, hwo]; simp)
          clear hwo
          go_wp2_with (first
            | (at_builtin; refine wpList_append_own _ rfl (.tmp 38) (.tmp 40) 61 rfl w.heap.size 3 i0 (.int .i64 0) 1 8 Try.underlying61 hi hz0 hz1 hz2 rfl (by decide) _ k (ints ls) rfl (Ho.out.alloc _) ⟨wB.heap.size, 0, none⟩ 1 1 [.int .i64 x] rfl rfl (cell_one_new _ _ _) (ints_oneCell _ [x]) (by unfold maxLen; omega) (by omega) (by simp; omega) ?_; intro v3 wD ho3 hg3 _; obtain ⟨g6, c6, rfl⟩ := Joins.ownsRow_form ho3 (by omega)))
          have hfin : WoRel w xs ys n1 (gA - 1) (.slice a2 0 c2) (.slice (some ⟨g6, 0, none⟩) (k + 1) c6) (.int .i64 ((i : Int) + 1)) wD :=
            ⟨i + 1, k + 1, a2, 0, c2, [], some ⟨g6, 0, none⟩, c6, ls ++ [x], by go_num, by have := Hgk.out; omega, rfl, HS0.out, rfl, by simpa [ints] using ho3, by rw [List.length_append, Hls.out]; rfl, by omega, Hwo, (Hb.out.alloc hwB _).grown hg3 (by simp; omega) (fun r e => (Ho.out.lt r e).1)⟩
          have Hfin := Lib.hid hfin
          clear hfin ho3 hg3
          go_wp2_with fail
          go_roundg (gA - 1)
          case measure => have := Hgk.out; omega
          case rel => exact Hfin.out
        | cons y t =>
          obtain ⟨q, rfl⟩ : ∃ q, gk = q + 1 := ⟨gk - 1, by have := hs2.1; simp at this; omega⟩
          obtain ⟨b2, off2, rfl, hat2⟩ := hs2.2.2.2 (by omega)
          have hb2 : b2 < w.heap.size := hat2.lt (by simp)
          have z0 := (hat2.below Hb.out hb2).head
          have HSy := Lib.hid hs2
          have hqc := hs2.2.1
          have hcm := hs2.2.2.1
          clear hat2 hs2 Hs
          by_cases hxy : x < y
          · have HGt := Lib.hid (show dropG x t = dropG x zs by rw [← HG0.out, dropG_gt hxy])
            by_cases hc1 : c2 = 1
            · have HSt0 := HSy.out.tail1 hc1
              obtain rfl := HSt0.2
              have HSt := Lib.hid HSt0.1
              subst hc1
              clear HSt0
              go_wp2_with fail
              go_roundg 0
              case measure => omega
              case rel => exact ⟨(some ⟨b2, off2, none⟩), 0, t, rfl, HSt.out, HGt, rfl⟩
            · have hc1' : ¬ (c2 : Int) = 1 := by omega
              have HSt := Lib.hid HSy.out.tail2
              have h1c : (1 : Int) ≤ (c2 : Int) := by omega
              go_wp2_with fail
              go_roundg q
              case measure => omega
              case rel => exact ⟨(some ⟨b2, off2 + 1, none⟩), (c2 - 1), t, rfl, HSt.out, HGt, rfl⟩
          · have HG := Lib.hid (show dropG x zs = y :: t by rw [← HG0.out, dropG_le hxy])
            have hxy' : decide (x < y) = false := by simpa using hxy
            clear HG0
            by_cases he : y = x
            · have hye : (y == x) = true := by simp [he]
              have Hwo := Lib.hid (show wo xs ys = ls ++ wo (xs.drop (i + 1)) t by rw [HW.out, Hdx.out, Hdx1.out, wo, HG.out, he]; simp)
              clear he
              by_cases hc1 : c2 = 1
              · have HSt0 := HSy.out.tail1 hc1
                obtain rfl := HSt0.2
                have HSt := Lib.hid HSt0.1
                subst hc1
                clear HSt0
                go_wp2_with fail
                go_roundg (gA - 1)
                case measure => have := Hgk.out; omega
                case rel => exact ⟨i + 1, k, (some ⟨b2, off2, none⟩), 0, 0, t, a5, c5, ls, by go_num, by have := Hgk.out; omega, rfl, HSt.out, rfl, Ho.out, Hls.out, by omega, Hwo, Hb.out⟩
              · have hc1' : ¬ (c2 : Int) = 1 := by omega
                have HSt := Lib.hid HSy.out.tail2
                have h1c : (1 : Int) ≤ (c2 : Int) := by omega
                go_wp2_with fail
                go_roundg (gA - 1)
                case measure => have := Hgk.out; omega
                case rel => exact ⟨i + 1, k, (some ⟨b2, off2 + 1, none⟩), q, (c2 - 1), t, a5, c5, ls, by go_num, by have := Hgk.out; omega, rfl, HSt.out, rfl, Ho.out, Hls.out, by omega, Hwo, Hb.out⟩
            · have hye : (y == x) = false := by simp [he]
              have hwo : wo (xs.drop i) zs = x :: wo (xs.drop (i + 1)) (y :: t) := by rw [Hdx.out, Hdx1.out, wo, HG.out, if_neg (by simpa using he)]
              have Hwo := Lib.hid (show wo xs ys = (ls ++ [x]) ++ wo (xs.drop (i + 1)) (y :: t) by rw [HW.out, hwo]; simp)
              clear hwo
              go_wp2_with (first
                | (at_builtin; refine wpList_append_own _ rfl (.tmp 38) (.tmp 40) 61 rfl w.heap.size 3 i0 (.int .i64 0) 1 8 Try.underlying61 hi hz0 hz1 hz2 rfl (by decide) _ k (ints ls) rfl (Ho.out.alloc _) ⟨wB.heap.size, 0, none⟩ 1 1 [.int .i64 x] rfl rfl (cell_one_new _ _ _) (ints_oneCell _ [x]) (by unfold maxLen; omega) (by omega) (by simp; omega) ?_; intro v3 wD ho3 hg3 _; obtain ⟨g6, c6, rfl⟩ := Joins.ownsRow_form ho3 (by omega)))
              have hfin : WoRel w xs ys n1 (gA - 1) (.slice (some ⟨b2, off2, none⟩) (q + 1) c2) (.slice (some ⟨g6, 0, none⟩) (k + 1) c6) (.int .i64 ((i : Int) + 1)) wD :=
                ⟨i + 1, k + 1, (some ⟨b2, off2, none⟩), (q + 1), c2, (y :: t), some ⟨g6, 0, none⟩, c6, ls ++ [x], by go_num, by have := Hgk.out; omega, rfl, HSy.out, rfl, by simpa [ints] using ho3, by rw [List.length_append, Hls.out]; rfl, by omega, Hwo, (Hb.out.alloc hwB _).grown hg3 (by simp; omega) (fun r e => (Ho.out.lt r e).1)⟩
              have Hfin := Lib.hid hfin
              clear hfin ho3 hg3
              go_wp2_with fail
              go_roundg (gA - 1)
              case measure => have := Hgk.out; omega
              case rel => exact Hfin.out
    · obtain rfl : i = n1 := by omega
      have hend : wo xs ys = ls := by rw [HW.out, List.drop_eq_nil_of_le (by rw [X1.out]; exact Nat.le_refl _), wo, List.append_nil]
      have hfin : w.heap.size ≤ w.heap.size → ∃ a c, Ending.returned (.slice a5 k c5) = .returned (.slice a (wo xs ys).length c) ∧ wB.ownsRow w.heap.size 3 1 (.slice a (wo xs ys).length c) (wo xs ys).length (ints (wo xs ys)) ∧ Below w.heap.size w wB := by
        intro _
        rw [hend, hls]
        exact ⟨a5, c5, rfl, ho, hb⟩
      have Hfin := Lib.hid (hfin (Nat.le_refl _))
      clear hfin hend ho hb hls hs hgk
      go_wp2_with fail
      go_ret
      exact Hfin.out

end Go.Proofs.Ytgkcpmhgmhioiaa

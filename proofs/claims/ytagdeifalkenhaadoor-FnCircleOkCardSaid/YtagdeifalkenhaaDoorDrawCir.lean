/- What the law of circles draws: a relation, and a circle or some points. -/
import Derived.Test.YtagdeifalkenhaaDoorDrawRel
import Derived.Test.YtagdeifalkenhaaDoorRelCr
namespace Go.Proofs.YtagdeifalkenhaaDoor
set_option maxRecDepth 100000
open Go.RowKit

def DrawCir (w : World) (e : Ending) (w' : World) : Prop :=
  ∃ (xs ps : List Int) (g n c : Nat) (a : Option Addr) (m cm : Nat), n = xs.length ∧ m = ps.length ∧ e = .returned (.tuple #[.slice (some ⟨g, 0, none⟩) n c, .slice a m cm]) ∧
    Sl w' (some ⟨g, 0, none⟩) n c xs ∧ Sl w' a m cm ps ∧ n ≤ 13 ∧ m ≤ 13 ∧ Below w.heap.size w w'

set_option maxHeartbeats 4000000 in
theorem drawCircleOk_any (a : Option Addr) (len cap : Nat) (w : World) (h : By w a len cap) : Calls Tryd.prog 7 #[.slice a len cap] w (DrawCir w) := by
  obtain ⟨i0, hi, hz0, hz1, hz2⟩ := info_parts info_int
  have k0 := Lib.hid (open_any a len cap w h)
  obtain ⟨g, hg⟩ : ∃ g, g = w.heap.size := ⟨_, rfl⟩
  rw [← hg] at k0
  have Hg := Lib.hid hg
  clear hg h
  go_enter Tryd.func7, Tryd.ntmps7
  go_wp2_with fail
  refine (k0.out).mono ?_
  rintro ee w1 ⟨rfl, hr1, hb1⟩
  have Hb1 := Lib.hid (show Below w.heap.size w w1 by rw [← Hg.out]; exact hb1)
  have hgl : g < w1.heap.size := by obtain ⟨_, _, _, _, h1, _⟩ := hr1; exact (Array.getElem?_eq_some_iff.1 h1).1
  have k3 := Lib.hid (l20Rel_any g 0 6 12 w1 (by decide) (by decide) (by decide) (by decide) (by decide) hr1)
  clear hr1 hb1
  go_wp2_with fail
  refine (k3.out).mono ?_
  rintro ee w3 ⟨xs, g1, n, c, hn, rfl, ho, hl, hrd, hgr⟩
  have HN := Lib.hid hn
  have HG := Lib.hid hgr
  have hgl3 : g < w3.heap.size := Nat.lt_of_lt_of_le hgl hgr.size
  have hg1 : g < g1 := Nat.lt_of_lt_of_le hgl (ho.lt g1 rfl).1
  have X3 := Lib.hid (Sl.of_own ho)
  have Hr3 := Lib.hid hrd
  have k4 := Lib.hid (specb_CircleOf (some ⟨g1, 0, none⟩) n c xs w3 X3.out)
  unfold CirPostB at k4
  clear ho hn hrd hgr
  go_wp2_with fail
  refine (k4.out).mono ?_
  rintro ee w4 ⟨ls, o, aP, cP, hcv, rfl, hsl, hll, hb4, hbl⟩
  have Hr4 := Lib.hid (Hr3.out.kept (below_grown hb4 none) (fun k e => by cases e))
  have X4 := Lib.hid (X3.out.below hb4)
  have P4 := Lib.hid hsl
  have HBL := Lib.hid (show ∀ ad, aP = some ad → g < ad.block from fun ad h => Nat.lt_of_lt_of_le hgl3 (hbl ad h))
  have HG4 := Lib.hid (grownBy_step HG.out (below_grown hb4 none) (fun k e => by cases e))
  have hgl4 : g < w4.heap.size := Nat.lt_of_lt_of_le hgl3 hb4.size
  clear hcv hsl hb4 hbl
  have Hfin := Lib.hid (show ∀ (wz : World) (ps : List Int) (m cm : Nat) (ap : Option Addr), w4.grownBy wz (some g) → Sl wz ap m cm ps → m ≤ 13 → DrawCir w (.returned (.tuple #[.slice (some ⟨g1, 0, none⟩) n c, .slice ap m cm])) wz from
    fun wz ps m cm ap hG hS hm => ⟨xs, ps, g1, n, c, ap, m, cm, HN.out, hS.1.symm, rfl, X4.out.grown hG (fun ad h => by cases h; exact hg1), hS, hl, hm,
      Hb1.out.grown (grownBy_trans HG4.out hG) Hb1.out.size (fun k e => by cases e; rw [Hg.out]; exact Nat.le_refl _)⟩)
  go_upto_region 4 with fail
  go_cut [23] (fun v23 wx => ∃ b : Bool, v23 = .bool b ∧ RdOk wx g (0 + 60 + 1) ∧ w4.grownBy wx (some g))
  case first =>
    cases o with
    | true =>
      have k5 := Lib.hid (pick_any g (0 + 60) 4 w4 (by omega) (by decide) (by decide) Hr4.out)
      go_wp2_with fail
      refine (k5.out).mono ?_
      rintro ee w5 ⟨p, rfl, hp, hr5, hg5⟩
      have Hg5 := Lib.hid hg5
      have Hr5 := Lib.hid hr5
      clear hp hr5 hg5
      go_wp2_with fail
      go_meet
      exact ⟨_, rfl, Hr5.out, Hg5.out⟩
    | false =>
      go_wp2_with fail
      go_meet
      exact ⟨false, rfl, Hr4.out.mono (by omega), World.grownBy.refl _ _⟩
  case rest =>
    obtain ⟨b, rfl, hr, hg⟩ := hcut
    obtain ⟨w5, rfl⟩ : ∃ w5 : World, w5 = wc := ⟨_, rfl⟩
    have Hg5 := Lib.hid hg
    have Hr5 := Lib.hid hr
    have hs5 := hg.size
    clear hg hr
    cases b with
    | true =>
      have Hd := Lib.hid (Hfin.out w5 (nz ls) _ _ _ Hg5.out (P4.out.grown Hg5.out HBL.out) (by omega))
      go_wp2_with fail
      go_ret2
      exact Hd.out
    | false =>
      have hga := World.grownBy_alloc w5 (.cells #[] 3) none
      have hoW : (w5.alloc (.cells #[] 3)).ownsRow w4.heap.size 3 1 (.slice (some ⟨w5.heap.size, 0, none⟩) 0 0) 0 (ints []) := Joins.ownsRow_le (World.ownsRow_lit w5 #[] 0 (Nat.le_refl _) (by simp [maxLen]) rfl) hs5
      have k6 := Lib.hid (pick_any g (0 + 60 + 1) 4 (w5.alloc (.cells #[] 3)) (by omega) (by decide) (by decide) (Hr5.out.kept hga (fun k e => by cases e)))
      have Hga := Lib.hid (grownBy_step Hg5.out hga (fun k e => by cases e))
      have HoW := Lib.hid hoW
      clear hga hoW
      go_wp2_with fail
      refine (k6.out).mono ?_
      rintro ee w6 ⟨z0, rfl, hz, hr6, hg6⟩
      have hz0' := hz.1
      have hz3 := hz.2.1 (by decide)
      have Ho6 := Lib.hid (own_rd HoW.out hg6 hgl4)
      have Hg6 := Lib.hid (grownBy_trans Hga.out hg6)
      have Hr6 := Lib.hid hr6
      obtain ⟨k0', rfl⟩ := Int.eq_ofNat_of_zero_le hz0'
      clear hz hr6 hg6
      go_wp2_with fail
      go_loopw [6, 8] (fun v6 v8 wr => ∃ (k m g6 c6 : Nat) (ps : List Int), v8 = .int .i64 (k : Int) ∧ k + m ≤ 3 ∧ ps.length = m ∧ v6 = .slice (some ⟨g6, 0, none⟩) m c6 ∧ wr.ownsRow w4.heap.size 3 1 (.slice (some ⟨g6, 0, none⟩) m c6) m (ints ps) ∧ RdOk wr g (62 + m) ∧ w4.grownBy wr (some g)) (fun _ v8 _ => (intOf v8).toNat)
      case atStart => exact ⟨k0', 0, _, _, [], rfl, by omega, rfl, rfl, Ho6.out, Hr6.out.mono (by omega), Hg6.out⟩
      case round =>
        obtain ⟨k, m, g6, c6, ps, rfl, hkm, hpl, rfl, ho, hr, hgG⟩ := hrel
        obtain ⟨wA, rfl⟩ : ∃ wA : World, wA = wr := ⟨_, rfl⟩
        have Ho := Lib.hid ho
        have HgG := Lib.hid hgG
        have Hpl := Lib.hid hpl
        by_cases hk : 0 < k
        · obtain ⟨k1, rfl⟩ : ∃ k1, k = k1 + 1 := ⟨k - 1, by omega⟩
          have k7 := Lib.hid (pick_any g (62 + m) ((n : Int) + 1) wA (by omega) (by omega) (by omega) hr)
          have hwn : IntKind.i64.wrap ((n : Int) + 1) = (n : Int) + 1 := IntWalk.i64_in _ (by omega)
          clear ho hr hgG hpl
          go_wp2_with fail
          refine (k7.out).mono ?_
          rintro ee w7 ⟨p, rfl, _, hr7, hg7⟩
          have Ho7 := Lib.hid (own_rd Ho.out hg7 hgl4)
          have Hg7 := Lib.hid (grownBy_trans HgG.out hg7)
          have Hr7 := Lib.hid hr7
          have hs7 := Hg7.out.size
          clear hr7 hg7
          go_wp2_with (first
            | (at_builtin; go_loud (refine wpList_append_own _ rfl (.tmp 33) (.tmp 39) 23 rfl w4.heap.size 3 i0 (.int .i64 0) 1 8 Tryd.underlying23 hi hz0 hz1 hz2 rfl (by decide) _ m (ints ps) (by rfl) (Ho7.out.alloc _) ⟨w7.heap.size, 0, none⟩ 1 1 [.int .i64 p] (by rfl) (by rfl) (cell_one_new _ _ _) (ints_oneCell _ [p]) (by unfold maxLen; omega) (by omega) (by simp; omega) ?_; intro v2' wB ho8 hg8 _; obtain ⟨g8, c8, rfl⟩ := Joins.ownsRow_form ho8 (by omega))))
          have hgN := World.grownBy_alloc w7 (.cells #[.int .i64 p] 3) none
          have Hr8 := Lib.hid ((Hr7.out.kept hgN (fun k e => by cases e)).kept hg8 (fun r e => by have := (Ho7.out.lt r e).1; omega))
          have Hg8 := Lib.hid (gs (grownBy_step Hg7.out hgN (fun k e => by cases e)) hg8 (fun r e => (Ho7.out.lt r e).1))
          have Ho8 := Lib.hid (show wB.ownsRow w4.heap.size 3 1 (.slice (some ⟨g8, 0, none⟩) (m + 1) c8) (m + 1) (ints (ps ++ [p])) by simpa [ints] using ho8)
          clear ho8 hg8 hgN
          go_wp2_with fail
          go_roundw
          case rel => exact ⟨k1, m + 1, g8, c8, ps ++ [p], by go_num, by omega, by rw [List.length_append, Hpl.out]; rfl, rfl, Ho8.out, Hr8.out.mono (by omega), Hg8.out⟩
          case measure => simp [intOf] <;> omega
        · obtain rfl : k = 0 := by omega
          have Hd := Lib.hid (Hfin.out wA ps _ _ _ HgG.out (Sl.of_own Ho.out) (by omega))
          clear ho hr hgG hpl
          go_wp2_with fail
          go_ret2
          exact Hd.out
end Go.Proofs.YtagdeifalkenhaaDoor

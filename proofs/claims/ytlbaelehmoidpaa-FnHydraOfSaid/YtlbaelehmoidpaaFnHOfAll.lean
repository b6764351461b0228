/- FnHOfAll: one text out of Draw0, Draw1, DrawL, DrawHo, Post, HydC, TermsB, HydP, HydG, HydQ, HydF, HydU, Nat, HydN, AddM, NatM, HydCM, StepsM, StepsD, StepsL, HydOM, AddJ, NatI, NatJ, Power, TreeO, StepI, LFnHydraOf. -/
import Derived.Test.YtlbaelehmoidpaaPick
import Derived.Test.YtlbaelehmoidpaaFn1
import Derived.Test.YtlbaelehmoidpaaRaw
import Derived.Test.YtlbaelehmoidpaaNextS
import Derived.Test.YtlbaelehmoidpaaSem
import Derived.Deep.DeepCutAuto
import Derived.Test.YtlbaelehmoidpaaMake
import Derived.Test.YtlbaelehmoidpaaTreeC
import Derived.Test.YtlbaelehmoidpaaHydV
import Derived.Test.YtlbaelehmoidpaaTermsOf
import Derived.RegionTactic
import Derived.BigRegion
import Derived.Test.YtlbaelehmoidpaaHydO
import Derived.Test.YtlbaelehmoidpaaMost
import Derived.Deep.RegionHeld3
import Derived.Test.YtlbaelehmoidpaaHydT
import Derived.Test.YtlbaelehmoidpaaHyd
import Derived.Test.YtlbaelehmoidpaaHydK
import Derived.Test.YtlbaelehmoidpaaAdd
import Derived.Test.YtlbaelehmoidpaaFnMath
import Derived.Test.YtlbaelehmoidpaaSteps
import Derived.Test.YtlbaelehmoidpaaAddI
import Derived.Laws.AppendOwnNone
import Derived.Test.YtlbaelehmoidpaaTreeG
/- Draw0 -/
/- What the laws draw with, and look with: opening a code, alive, sameInts. -/
namespace Go.Proofs.Ytlbaelehmoidpaa
set_option maxRecDepth 100000
open Go.RowKit

set_option maxHeartbeats 1000000 in
theorem sameInts_any (a1 a2 : Option Addr) (n1 c1 n2 c2 : Nat) (xs ys : List Int) (w : World) (hb : n1 ≤ 1000000000000) (hx : Sl w a1 n1 c1 xs) (hy : Sl w a2 n2 c2 ys) :
    Calls Try.prog 9 #[.slice a1 n1 c1, .slice a2 n2 c2] w fun e w' => e = .returned (.bool (eqB xs ys)) ∧ Below w.heap.size w w' := by
  obtain ⟨x1, x2, x3, x4⟩ := hx
  obtain ⟨y1, y2, y3, y4⟩ := hy
  have X1 := Lib.hid x1
  have X4 := Lib.hid x4
  have Y1 := Lib.hid y1
  have Y4 := Lib.hid y4
  clear x1 x4 y1 y4
  by_cases hn : n1 = n2
  · subst hn
    go_enter Try.func9, Try.ntmps9
    go_wp2_with fail
    go_loopw [5] (fun i wr => ∃ (k : Nat), k ≤ n1 ∧ i = .int .i64 k ∧ Hid (∀ j, j < k → xs.getD j 0 = ys.getD j 0) ∧ Below w.heap.size w wr) (fun i _ => n1 - (intOf i).toNat)
    case atStart => exact ⟨0, Nat.zero_le _, rfl, fun j hj => by omega, Below.refl _ _⟩
    case round =>
      obtain ⟨k, hk, rfl, HE, hbel⟩ := hrel
      by_cases hlt : k < n1
      · obtain ⟨b, off, rfl, hat⟩ := X4.out (by omega)
        obtain ⟨b', off', rfl, hat'⟩ := Y4.out (by omega)
        have hkx : k < xs.length := by rw [X1.out]; exact hlt
        have hky : k < ys.length := by rw [Y1.out]; exact hlt
        have hx : wr.cell? ⟨b, off + k, none⟩ = some (.int .i64 (xs.getD k 0)) := (hbel.cell (p := ⟨b, off + k, none⟩) (by exact hat.lt (by intro h; rw [h] at hkx; simp at hkx))).trans (hat k hkx)
        have hy : wr.cell? ⟨b', off' + k, none⟩ = some (.int .i64 (ys.getD k 0)) := (hbel.cell (p := ⟨b', off' + k, none⟩) (by exact hat'.lt (by intro h; rw [h] at hky; simp at hky))).trans (hat' k hky)
        obtain ⟨x, hxe⟩ : ∃ x, x = xs.getD k 0 := ⟨_, rfl⟩
        obtain ⟨y, hye⟩ : ∃ x, x = ys.getD k 0 := ⟨_, rfl⟩
        rw [← hxe] at hx
        rw [← hye] at hy
        have Hx := Lib.hid hxe
        have Hy := Lib.hid hye
        clear hkx hky hxe hye
        by_cases hxy : x = y
        · subst hxy
          go_wp2_with fail
          go_quiet (fail)
          go_wp2_with fail
          go_roundw
          case rel =>
            refine ⟨k + 1, by omega, by go_num, fun j hj => ?_, hbel.trans (Joins.below_draws _ _ _)⟩
            by_cases hjk : j = k
            · subst hjk; rw [← Hx.out, ← Hy.out]
            · exact HE.out j (by omega)
          case measure => simp [intOf]; omega
        · have hne : (x != y) = true := by simp [hxy]
          have HXY := Lib.hid hxy
          clear hxy
          go_wp2_with fail
          go_quiet (fail)
          go_wp2_with fail
          go_ret
          exact ⟨by rw [eqB_at (k := k) (by rw [← Hx.out, ← Hy.out]; exact HXY.out)]; rfl, hbel.trans (Joins.below_draws _ _ _)⟩
      · obtain rfl : k = n1 := by omega
        go_wp2_with fail
        go_ret
        exact ⟨by rw [eqB_all (by rw [X1.out, Y1.out]) (fun j hj => HE.out j (by rw [← X1.out]; exact hj))]; rfl, hbel⟩
  · have hne : ((n1 : Int) != n2) = true := by simp; omega
    have hf : eqB xs ys = false := eqB_len (by rw [X1.out, Y1.out]; exact hn)
    have HF := Lib.hid hf
    clear hn hf
    go_enter Try.func9, Try.ntmps9
    go_wp2_with fail
    go_ret
    exact ⟨by rw [HF.out]; rfl, Below.refl _ _⟩

/-- A row of bytes that was given. -/
def By (w : World) (a : Option Addr) (len cap : Nat) : Prop :=
  len ≤ cap ∧ cap ≤ maxLen ∧ (0 < len → ∃ b off, a = some ⟨b, off, none⟩ ∧ b < w.heap.size ∧ ∀ j, j < len → ∃ v : Nat, v ≤ 255 ∧ w.cell? ⟨b, off + j, none⟩ = some (.int .u8 v))

theorem u8_wf {n : Int} (h : (Lit.int .u8 n).wf = true) : ∃ v : Nat, v ≤ 255 ∧ n = v := by
  have h1 : 0 ≤ n ∧ n ≤ 255 := by simpa [Lit.wf, IntKind.min, IntKind.max, IntKind.signed, IntKind.bits] using h
  exact ⟨n.toNat, by omega, by omega⟩

theorem by_of_row {w : World} {a : Option Addr} {len cap : Nat} {zs : List Int}
    (h : (a = none ∧ len = 0 ∧ cap = 0 ∧ zs = []) ∨
      ∃ x, a = some x ∧ len ≤ cap ∧ cap ≤ maxLen ∧ zs.length = cap ∧ (∀ i, i < zs.length → w.cell? (x.add i) = some (.int .u8 (zs.getD i 0))) ∧ ∀ n ∈ zs, (Lit.int .u8 n).wf = true) :
    By w a len cap := by
  rcases h with ⟨rfl, rfl, rfl, rfl⟩ | ⟨x, rfl, hl, hm, hz, hcell, hw⟩
  · exact ⟨Nat.le_refl _, Nat.zero_le _, fun h => by omega⟩
  · refine ⟨hl, hm, fun hp => ?_⟩
    obtain ⟨b, off, spot⟩ := x
    have hc := hcell 0 (by omega)
    have hspot : spot = none := by simpa [Addr.add] using World.cell?_spot hc
    subst hspot
    refine ⟨b, off, rfl, World.block_lt_of_cell? w _ hc, fun j hj => ?_⟩
    have h1 := hcell j (by omega)
    rw [Addr.add_lit] at h1
    have hj' : j < zs.length := by omega
    obtain ⟨v, hv, he⟩ := u8_wf (hw (zs.getD j 0) (by simp [List.getD, hj']))
    exact ⟨v, hv, by rw [h1, he]⟩

theorem new_block (w : World) (o : Obj) : (w.alloc o).heap[w.heap.size]? = some o := by
  show (w.heap.push o)[w.heap.size]? = some o
  simp

theorem By.rd {w : World} {a : Option Addr} {len cap n c : Nat} (h : By w a len cap) (hn : n ≤ len) (hn2 : n ≤ 2000) :
    RdOk (w.alloc (.cells #[.slice a n c, .int .i64 0] 60 (0, 0))) w.heap.size 0 := by
  refine ⟨a, n, c, 0, new_block w _, Nat.le_refl _, hn2, fun hp => ?_⟩
  obtain ⟨b, off, h1, h2, h3⟩ := h.2.2 (by omega)
  refine ⟨b, off, h1, h2, fun j hj => ?_⟩
  obtain ⟨v, h4, h5⟩ := h3 j (by omega)
  exact ⟨v, h4, ((Joins.below_alloc1 w _).cell (p := ⟨b, off + j, none⟩) h2).trans h5⟩

theorem open_any (a : Option Addr) (len cap : Nat) (w : World) (h : By w a len cap) :
    Calls Try.prog 22 #[.slice a len cap] w fun e w' => e = .returned (.pointer (some ⟨w.heap.size, 0, none⟩)) ∧ RdOk w' w.heap.size 0 ∧ Below w.heap.size w w' := by
  have H := Lib.hid h
  obtain ⟨h1, h2, h3⟩ := h
  by_cases hl : len ≤ 2000
  · clear h3
    go_enter Try.func22, Try.ntmps22
    go_wp2_with fail
    go_ret
    exact ⟨rfl, H.out.rd (Nat.le_refl _) hl, Joins.below_alloc1 _ _⟩
  · obtain ⟨b, off, rfl, _, _⟩ := h3 (by omega)
    clear h3
    go_enter Try.func22, Try.ntmps22
    go_wp2_with fail
    go_ret
    exact ⟨rfl, H.out.rd (by omega) (Nat.le_refl _), Joins.below_alloc1 _ _⟩

theorem alive_any (w : World) : Calls Try.prog 10 #[] w fun e w' => e = .returned (.bool true) ∧ Below w.heap.size w w' := by
  have k1 := Lib.hid (fun w => impl_OrdOf 0 w (by decide) (by decide))
  have k2 := Lib.hid (fun w => impl_OrdOf 7 w (by decide) (by decide))
  go_enter Try.func10, Try.ntmps10
  go_wp2_with fail
  refine (k1.out _).mono ?_
  rintro ee w1 ⟨a1, c1, rfl, _, hb1⟩
  have Hb1 := Lib.hid hb1
  have e1 : (T.num' 0).length = 1 := rfl
  have e2 : (T.num' 7).length = 3 := rfl
  rw [e1]
  clear hb1
  go_wp2_with fail
  refine (k2.out _).mono ?_
  rintro ee w2 ⟨a2, c2, rfl, _, hb2⟩
  have Hb2 := Lib.hid (Hb1.out.trans (hb2.mono Hb1.out.size))
  rw [e2]
  clear hb2
  go_wp2_with fail
  go_ret
  exact ⟨rfl, Hb2.out⟩

end Go.Proofs.Ytlbaelehmoidpaa

/- Draw1 -/
/- What the laws of chapter 1 draw: ordinals, and rows that are none. -/
namespace Go.Proofs.Ytlbaelehmoidpaa
set_option maxRecDepth 100000
open Go.RowKit

/-- A row that was drawn. -/
def OrdPost (w : World) (g P : Nat) (e : Ending) (w' : World) : Prop :=
  ∃ (xs : List Int) (g' n c : Nat), n = xs.length ∧ e = .returned (.slice (some ⟨g', 0, none⟩) n c) ∧ w'.ownsRow w.heap.size 3 1 (.slice (some ⟨g', 0, none⟩) n c) n (ints xs) ∧
    n ≤ 200 ∧ RdOk w' g (P + 2000) ∧ w.grownBy w' (some g)

def OrdRel (w : World) (g P k : Nat) (v5 v6 : Value) (wr : World) : Prop :=
  ∃ (j : Nat) (t : T) (g1 c1 : Nat), v6 = .int .i64 j ∧ k + j = 4 ∧ v5 = .slice (some ⟨g1, 0, none⟩) t.enc.length c1 ∧ wr.ownsRow w.heap.size 3 1 v5 t.enc.length (ints t.enc) ∧
    t.enc.length ≤ 140 ∧ RdOk wr g (P + 200 + j * 61) ∧ w.grownBy wr (some g)

def OrdCut (w : World) (g P : Nat) (v5 : Value) (wx : World) : Prop :=
  ∃ (xs : List Int) (g1 n c1 : Nat), n = xs.length ∧ v5 = .slice (some ⟨g1, 0, none⟩) n c1 ∧ wx.ownsRow w.heap.size 3 1 v5 n (ints xs) ∧ n ≤ 140 ∧ RdOk wx g (P + 444) ∧ w.grownBy wx (some g)

theorem OrdRel.cut {w wr : World} {g P k : Nat} {v5 v6 : Value} (h : OrdRel w g P k v5 v6 wr) : OrdCut w g P v5 wr := by
  obtain ⟨j, t, g1, c1, rfl, hk, rfl, ho, hl, hr, hg⟩ := h
  exact ⟨t.enc, g1, t.enc.length, c1, rfl, rfl, ho, hl, hr.mono (by omega), hg⟩

theorem ord_fin {w w7 w8 : World} {g P n g' c : Nat} {xs : List Int} (h0 : w.grownBy w7 (some g)) (hg : w7.grownBy w8 none) (hr : RdOk w7 g (P + 2000)) (hn : n = xs.length) (hl : n ≤ 200)
    (ho : w8.ownsRow w7.heap.size 3 1 (.slice (some ⟨g', 0, none⟩) n c) n (ints xs)) : OrdPost w g P (.returned (.slice (some ⟨g', 0, none⟩) n c)) w8 :=
  ⟨xs, g', n, c, hn, rfl, Joins.ownsRow_le ho h0.size, hl, hr.kept hg (fun k hk => by cases hk), grownBy_step h0 hg (fun k hk => by cases hk)⟩

theorem own_news {w : World} {B e n b c : Nat} {xs : List Value} {o : Obj} (ho : w.ownsRow B e 1 (.slice (some ⟨b, 0, none⟩) n c) n xs) :
    ∀ j x, xs[j]? = some x → (w.alloc o).cell? ((⟨b, 0, none⟩ : Addr).add j) = some x := by
  intro j x hx
  have hj : j < xs.length := (List.getElem?_eq_some_iff.1 hx).1
  have hl := ho.1
  rw [Addr.add_lit, Nat.zero_add, World.cell?_alloc_past _ _ _ (ho.lt b rfl).2, ho.cellAt j (by omega)]
  exact hx

theorem le_of_alloc' {w w' : World} {o : Obj} {row : Option Nat} (hg : (w.alloc o).grownBy w' row) : w.heap.size + 1 ≤ w'.heap.size := by
  have := hg.size
  simpa using this

set_option maxHeartbeats 2000000 in
theorem l20Ord_any (g P : Nat) (n : Int) (w : World) (hP : P ≤ 90000000) (hn0 : 0 ≤ n) (hn1 : n ≤ 1000000) (hrd : RdOk w g P) :
    Calls Try.prog 61 #[.pointer (some ⟨g, 0, none⟩), .int .i64 n] w (OrdPost w g P) := by
  obtain ⟨i0, hi, hz0, hz1, hz2⟩ := info_parts info_int
  have hgl : g < w.heap.size := by obtain ⟨_, _, _, _, h1, _⟩ := hrd; exact (Array.getElem?_eq_some_iff.1 h1).1
  have k3 := Lib.hid (l20Raw_any 4 3 g P w (by omega) (by omega) (by omega) hrd)
  clear hrd
  go_enter Try.func61, Try.ntmps61
  go_wp2_with fail
  refine (k3.out).mono ?_
  rintro ee w1 ⟨t1, g1, c1, rfl, ho1, hl1, hr1, hg1⟩
  have hst : OrdRel w g P 4 (.slice (some ⟨g1, 0, none⟩) t1.enc.length c1) (.int .i64 0) w1 :=
    ⟨0, t1, g1, c1, rfl, rfl, rfl, ho1, Nat.le_trans hl1 (by decide), hr1.mono (by simp [Cb]), hg1⟩
  have Hst := Lib.hid hst
  clear hst ho1 hl1 hr1 hg1
  go_upto_block 0 with fail
  go_cut [5] (fun v5 wx => OrdCut w g P v5 wx)
  case first =>
    go_wp2_with fail
    go_loopg [5, 6] 4 (fun k v5 v6 wr => OrdRel w g P k v5 v6 wr)
    case atStart => exact Hst.out
    case round =>
      have Hrel := Lib.hid hrel
      obtain ⟨j, t, g2, c2, rfl, hkj, rfl, ho, hl, hr, hg⟩ := hrel
      have Hkj := Lib.hid hkj
      have hj4 : j ≤ 4 := by omega
      by_cases hj : j < 4
      · by_cases hlen : 24 < t.enc.length
        · have k2 := Lib.hid (l20Raw_any 4 2 g (P + 200 + j * 61) wr (by omega) (by omega) (by omega) hr)
          have Hg := Lib.hid hg
          clear hkj ho hr hg
          go_wp2_with fail
          refine (k2.out).mono ?_
          rintro ee w2 ⟨t2, g3, c3, rfl, ho2, hl2, hr2, hg2⟩
          have hfin : OrdRel w g P (gk - 1) (.slice (some ⟨g3, 0, none⟩) t2.enc.length c3) (.int .i64 ((j + 1 : Nat) : Int)) w2 :=
            ⟨j + 1, t2, g3, c3, rfl, by have := Hkj.out; omega, rfl, Joins.ownsRow_le ho2 Hg.out.size, Nat.le_trans hl2 (by decide), hr2.mono (by simp [Cb]; omega), grownBy_trans Hg.out hg2⟩
          have Hfin := Lib.hid hfin
          clear hfin ho2 hl2 hr2 hg2
          go_wp2_with fail
          go_roundg (gk - 1)
          case measure => have := Hkj.out; omega
          case rel => exact Hfin.out
        · clear hkj ho hr hg
          go_wp2_with fail
          go_meet
          exact OrdRel.cut Hrel.out
      · clear hkj ho hr hg
        go_wp2_with fail
        go_meet
        exact OrdRel.cut Hrel.out
  case rest =>
    obtain ⟨xs, g2, m, c2, hm, rfl, ho, hl, hr, hg⟩ := hcut
    obtain ⟨w5, rfl⟩ : ∃ w5 : World, w5 = wc := ⟨_, rfl⟩
    have Hm := Lib.hid hm
    have Ho := Lib.hid ho
    have Hg := Lib.hid hg
    have Hr := Lib.hid hr
    have ko := Lib.hid (odd_any g (P + 444) n w5 (by omega) (by omega) (by omega) hr)
    clear hm ho hg hr
    go_wp2_with fail
    refine (ko.out).mono ?_
    rintro ee w6 ⟨b, rfl, hr6, hg6⟩
    have Hg6 := Lib.hid (grownBy_trans Hg.out hg6)
    have Ho6 := Lib.hid (own_rd Ho.out hg6 hgl)
    have Hr6 := Lib.hid hr6
    clear hr6 hg6
    cases b with
    | false =>
      go_wp2_with fail
      go_ret
      exact ⟨xs, g2, m, c2, Hm.out, rfl, Ho6.out, by omega, Hr6.out.mono (by omega), Hg6.out⟩
    | true =>
      have kp := Lib.hid (pick_any g (P + 444 + 1) 5 w6 (by omega) (by decide) (by decide) Hr6.out)
      go_wp2_with fail
      refine (kp.out).mono ?_
      rintro ee w7 ⟨r, rfl, hr7, hrd7, hg7⟩
      have hr70 := hr7.1
      have hr71 := hr7.2.1 (by decide)
      have Hg7 := Lib.hid (grownBy_trans Hg6.out hg7)
      have Ho7 := Lib.hid (own_rd Ho6.out hg7 hgl)
      have Hr7 := Lib.hid (hrd7.mono (show P + 444 + 1 + 1 ≤ P + 2000 by omega))
      clear hr7 hrd7 hg7
      have hcase : r = 0 ∨ r = 1 ∨ r = 2 ∨ r = 3 ∨ r = 4 := by omega
      rcases hcase with rfl | rfl | rfl | rfl | rfl
      · go_wp2_with fail
        go_ret
        exact ord_fin (xs := []) Hg7.out (World.grownBy_alloc w7 _ none) Hr7.out rfl (by decide) (World.ownsRow_lit w7 #[] 0 (Nat.le_refl _) (by simp [maxLen]) rfl)
      · have HX := Lib.hid (show (ints xs).length = m * 1 by rw [ints_len]; have := Hm.out; omega)
        have HN := Lib.hid (show ∀ j u, (ints xs)[j]? = some u → (w7.alloc (.cells #[] 3)).cell? ((⟨g2, 0, none⟩ : Addr).add j) = some u from own_news Ho7.out)
        go_wp2_with (first
          | (at_builtin; refine wpList_append_own _ rfl (.tmp 31) (.tmp 32) 23 rfl w7.heap.size 3 i0 (.int .i64 0) 1 8 Try.underlying23 hi hz0 hz1 hz2 rfl (by decide) _ 0 [] rfl (World.ownsRow_lit w7 #[] 0 (Nat.le_refl _) (by simp [maxLen]) rfl) ⟨g2, 0, none⟩ m c2 (ints xs) rfl HX.out HN.out (ints_one _) (by unfold maxLen; omega) (by omega) (by simp) ?_; intro v1 w8 ho1 hg1 _)
          | (at_builtin; refine wpList_append_own _ rfl (.tmp 33) (.tmp 34) 23 rfl w7.heap.size 3 i0 (.int .i64 0) 1 8 Try.underlying23 hi hz0 hz1 hz2 rfl (by decide) _ m (ints xs) rfl ((own0 ho1).alloc _) ⟨w8.heap.size, 0, none⟩ 1 1 [.int .i64 0] rfl rfl (cell_one_new _ _ _) (ints_oneCell _ [0]) (by unfold maxLen; omega) (by omega) (by have h1 : w7.heap.size + 1 ≤ w8.heap.size := le_of_alloc' hg1; simp; omega) ?_; intro v2 w9 ho2 hg2 _))
        obtain ⟨g5, c5, rfl⟩ := Joins.ownsRow_form ho2 (by omega)
        have hgA := gn (gn (gn (World.grownBy_alloc w7 _ none) hg1 (fun r e => by cases e; exact Nat.le_refl _)) (World.grownBy_alloc w8 _ none) (fun r e => by cases e)) hg2 (fun r e => ((own0 ho1).lt r e).1)
        have hfin : OrdPost w g P (.returned (.slice (some ⟨g5, 0, none⟩) (m + 1) c5)) w9 :=
          ord_fin (xs := xs ++ [0]) Hg7.out hgA Hr7.out (by have := Hm.out; simp; omega) (by omega) (by simpa [ints] using ho2)
        have Hfin := Lib.hid hfin
        clear hfin hgA ho1 hg1 ho2 hg2
        go_wp2_with fail
        go_ret
        exact Hfin.out
      · go_wp2_with fail
        go_ret
        exact ord_fin (xs := [2, 1, 0, 1, 1, 1, 0]) Hg7.out (World.grownBy_alloc w7 _ none) Hr7.out rfl (by decide) (World.ownsRow_lit w7 _ 7 (Nat.le_refl _) (by simp [maxLen]) rfl)
      · go_wp2_with fail
        go_ret
        exact ord_fin (xs := [1, 0, 0]) Hg7.out (World.grownBy_alloc w7 _ none) Hr7.out rfl (by decide) (World.ownsRow_lit w7 _ 3 (Nat.le_refl _) (by simp [maxLen]) rfl)
      · go_wp2_with fail
        go_ret
        exact ord_fin (xs := [1, 10000, 0]) Hg7.out (World.grownBy_alloc w7 _ none) Hr7.out rfl (by decide) (World.ownsRow_lit w7 _ 3 (Nat.le_refl _) (by simp [maxLen]) rfl)

end Go.Proofs.Ytlbaelehmoidpaa

/- DrawL -/
/- What the laws of chapter 2 draw: small ordinals, one or two. -/
namespace Go.Proofs.Ytlbaelehmoidpaa
set_option maxRecDepth 100000
open Go.RowKit

theorem By.later {w w' : World} {a : Option Addr} {len cap : Nat} (h : By w a len cap) (hb : Below w.heap.size w w') : By w' a len cap := by
  refine ⟨h.1, h.2.1, fun hp => ?_⟩
  obtain ⟨b, off, h1, h2, h3⟩ := h.2.2 hp
  refine ⟨b, off, h1, Nat.lt_of_lt_of_le h2 hb.size, fun j hj => ?_⟩
  obtain ⟨v, h4, h5⟩ := h3 j hj
  exact ⟨v, h4, (hb.cell (p := ⟨b, off + j, none⟩) h2).trans h5⟩

def LitPost (w : World) (g P : Nat) (e : Ending) (w' : World) : Prop :=
  ∃ (xs : List Int) (g' n c : Nat), n = xs.length ∧ e = .returned (.slice (some ⟨g', 0, none⟩) n c) ∧ w'.ownsRow w.heap.size 3 1 (.slice (some ⟨g', 0, none⟩) n c) n (ints xs) ∧
    n ≤ 200 ∧ RdOk w' g (P + 2100) ∧ w.grownBy w' (some g)

def LitRel (w : World) (g P k : Nat) (v5 v6 : Value) (wr : World) : Prop :=
  ∃ (j : Nat) (t : T) (g1 c1 : Nat), v6 = .int .i64 j ∧ k + j = 4 ∧ v5 = .slice (some ⟨g1, 0, none⟩) t.enc.length c1 ∧ wr.ownsRow w.heap.size 3 1 v5 t.enc.length (ints t.enc) ∧
    t.enc.length ≤ 140 ∧ RdOk wr g (P + 200 + j * 61) ∧ w.grownBy wr (some g)

theorem lit_fin {w w7 w8 : World} {g P n g' c : Nat} {xs : List Int} (h0 : w.grownBy w7 (some g)) (hg : w7.grownBy w8 none) (hr : RdOk w7 g (P + 2100)) (hn : n = xs.length) (hl : n ≤ 200)
    (ho : w7.ownsRow w.heap.size 3 1 (.slice (some ⟨g', 0, none⟩) n c) n (ints xs)) : LitPost w g P (.returned (.slice (some ⟨g', 0, none⟩) n c)) w8 :=
  ⟨xs, g', n, c, hn, rfl, ho.kept hg (.inr (by simp [Value.ownBlock])), hl, hr.kept hg (fun k hk => by cases hk), grownBy_step h0 hg (fun k hk => by cases hk)⟩

set_option maxHeartbeats 2000000 in
theorem l20Little_any (g P : Nat) (n : Int) (w : World) (hP : P ≤ 80000000) (hn0 : 0 ≤ n) (hn1 : n ≤ 1000000) (hrd : RdOk w g P) :
    Calls Try.prog 38 #[.pointer (some ⟨g, 0, none⟩), .int .i64 n] w (LitPost w g P) := by
  have hgl : g < w.heap.size := by obtain ⟨_, _, _, _, h1, _⟩ := hrd; exact (Array.getElem?_eq_some_iff.1 h1).1
  have k0 := Lib.hid (odd_any g P n w (by omega) (by omega) (by omega) hrd)
  clear hrd
  go_enter Try.func38, Try.ntmps38
  go_wp2_with fail
  refine (k0.out).mono ?_
  rintro ee w0 ⟨b, rfl, hr0, hg0⟩
  have Hr0 := Lib.hid hr0
  have Hg0 := Lib.hid hg0
  have hg0s := hg0.size
  clear hr0 hg0
  cases b with
  | true =>
    have k1 := Lib.hid (l20Ord_any g (P + 1) 1 w0 (by omega) (by decide) (by decide) Hr0.out)
    go_wp2_with fail
    refine (k1.out).mono ?_
    rintro ee w1 ⟨xs, g1, m, c, hm, rfl, ho, hl, hr, hg⟩
    have hfin : LitPost w g P (.returned (.slice (some ⟨g1, 0, none⟩) m c)) w1 := ⟨xs, g1, m, c, hm, rfl, Joins.ownsRow_le ho hg0s, hl, hr.mono (by omega), grownBy_trans Hg0.out hg⟩
    have Hfin := Lib.hid hfin
    clear hm ho hr hg hfin
    go_wp2_with fail
    go_ret
    exact Hfin.out
  | false =>
    have k3 := Lib.hid (l20Raw_any 4 2 g (P + 1) w0 (by omega) (by omega) (by omega) Hr0.out)
    go_wp2_with fail
    refine (k3.out).mono ?_
    rintro ee w1 ⟨t1, g1, c1, rfl, ho1, hl1, hr1, hg1⟩
    have hst : LitRel w g P 4 (.slice (some ⟨g1, 0, none⟩) t1.enc.length c1) (.int .i64 0) w1 :=
      ⟨0, t1, g1, c1, rfl, rfl, rfl, Joins.ownsRow_le ho1 hg0s, Nat.le_trans hl1 (by decide), hr1.mono (by simp [Cb] <;> omega), grownBy_trans Hg0.out hg1⟩
    have Hst := Lib.hid hst
    clear hst ho1 hl1 hr1 hg1
    go_wp2_with fail
    go_loopg [5, 6] 4 (fun k v5 v6 wr => LitRel w g P k v5 v6 wr)
    case atStart => exact Hst.out
    case round =>
      obtain ⟨j, t, g2, c2, rfl, hkj, rfl, ho, hl, hr, hg⟩ := hrel
      have Hkj := Lib.hid hkj
      have Ho := Lib.hid ho
      have Hr := Lib.hid hr
      have Hg := Lib.hid hg
      have hj4 : j ≤ 4 := by omega
      by_cases hj : j < 4
      · by_cases hlen : 16 < t.enc.length
        · have k2 := Lib.hid (l20Raw_any 4 1 g (P + 200 + j * 61) wr (by omega) (by omega) (by omega) hr)
          clear hkj ho hr hg
          go_wp2_with fail
          refine (k2.out).mono ?_
          rintro ee w2 ⟨t2, g3, c3, rfl, ho2, hl2, hr2, hg2⟩
          have hfin : LitRel w g P (gk - 1) (.slice (some ⟨g3, 0, none⟩) t2.enc.length c3) (.int .i64 ((j + 1 : Nat) : Int)) w2 :=
            ⟨j + 1, t2, g3, c3, rfl, by have := Hkj.out; omega, rfl, Joins.ownsRow_le ho2 Hg.out.size, Nat.le_trans hl2 (by decide), hr2.mono (by simp [Cb]; omega), grownBy_trans Hg.out hg2⟩
          have Hfin := Lib.hid hfin
          clear hfin ho2 hl2 hr2 hg2
          go_wp2_with fail
          go_roundg (gk - 1)
          case measure => have := Hkj.out; omega
          case rel => exact Hfin.out
        · clear hkj ho hr hg
          go_wp2_with fail
          go_ret
          exact ⟨t.enc, g2, t.enc.length, c2, rfl, rfl, Ho.out, by omega, Hr.out.mono (by omega), Hg.out⟩
      · clear hkj ho hr hg
        go_wp2_with fail
        go_ret
        exact ⟨t.enc, g2, t.enc.length, c2, rfl, rfl, Ho.out, by omega, Hr.out.mono (by omega), Hg.out⟩

def BothPost (w : World) (g P : Nat) (e : Ending) (w' : World) : Prop :=
  ∃ (xs ys : List Int) (g1 n c g2 n2 c2 : Nat), n = xs.length ∧ n2 = ys.length ∧ e = .returned (.tuple #[.slice (some ⟨g1, 0, none⟩) n c, .slice (some ⟨g2, 0, none⟩) n2 c2]) ∧
    w'.ownsRow w.heap.size 3 1 (.slice (some ⟨g1, 0, none⟩) n c) n (ints xs) ∧ w'.ownsRow w.heap.size 3 1 (.slice (some ⟨g2, 0, none⟩) n2 c2) n2 (ints ys) ∧ n ≤ 200 ∧ n2 ≤ 200 ∧ RdOk w' g (P + 4200) ∧ w.grownBy w' (some g)


def DrawBoth (w : World) (e : Ending) (w' : World) : Prop :=
  ∃ (xs ys : List Int) (g n c g2 n2 c2 : Nat), n = xs.length ∧ n2 = ys.length ∧ e = .returned (.tuple #[.slice (some ⟨g, 0, none⟩) n c, .slice (some ⟨g2, 0, none⟩) n2 c2]) ∧
    w'.ownsRow w.heap.size 3 1 (.slice (some ⟨g, 0, none⟩) n c) n (ints xs) ∧ w'.ownsRow w.heap.size 3 1 (.slice (some ⟨g2, 0, none⟩) n2 c2) n2 (ints ys) ∧ n ≤ 200 ∧ n2 ≤ 200 ∧ Below w.heap.size w w'


end Go.Proofs.Ytlbaelehmoidpaa

/- DrawHo -/
/- The draw of the law of HydraOf. -/
namespace Go.Proofs.Ytlbaelehmoidpaa
set_option maxRecDepth 100000
open Go.RowKit

def HoDraw (w : World) (e : Ending) (w' : World) : Prop :=
  ∃ (xs : List Int) (g n c : Nat), n = xs.length ∧ e = .returned (.slice (some ⟨g, 0, none⟩) n c) ∧ w'.ownsRow w.heap.size 3 1 (.slice (some ⟨g, 0, none⟩) n c) n (ints xs) ∧ n ≤ 1000 ∧ Below w.heap.size w w'

set_option maxHeartbeats 1000000 in
theorem drawHydraOf_any (a : Option Addr) (len cap : Nat) (w : World) (h : By w a len cap) : Calls Try.prog 17 #[.slice a len cap] w (HoDraw w) := by
  have k0 := Lib.hid (open_any a len cap w h)
  obtain ⟨g, hg⟩ : ∃ g, g = w.heap.size := ⟨_, rfl⟩
  rw [← hg] at k0
  have Hg := Lib.hid hg
  clear hg h
  go_enter Try.func17, Try.ntmps17
  go_wp2_with fail
  refine (k0.out).mono ?_
  rintro ee w1 ⟨rfl, hr1, hb1⟩
  have Hb1 := Lib.hid hb1
  have k1 := Lib.hid (l20Little_any g 0 9 w1 (by decide) (by decide) (by decide) hr1)
  clear hb1 hr1
  go_wp2_with fail
  refine (k1.out).mono ?_
  rintro ee w2 ⟨xs, g', n, c, hn, rfl, ho, hl, hr2, hg2⟩
  have Hp := Lib.hid (show HoDraw w (.returned (.slice (some ⟨g', 0, none⟩) n c)) w2 from by
    have hb12 : Below w.heap.size w w1 := by rw [← Hg.out]; exact Hb1.out
    have hgg : w.heap.size ≤ g := by rw [Hg.out]; exact Nat.le_refl _
    exact ⟨xs, g', n, c, hn, rfl, Joins.ownsRow_le ho hb12.size, by omega, hb12.grown hg2 hb12.size (fun k e => by cases e; exact hgg)⟩)
  clear hn ho hl hr2 hg2
  go_wp2_with fail
  go_ret
  exact Hp.out
end Go.Proofs.Ytlbaelehmoidpaa

/- Post -/
/- What functions answer that answer a row and whether it is there; the model's l2Fit. -/
namespace Go.Proofs.Ytlbaelehmoidpaa
set_option maxRecDepth 100000
open Go.RowKit

def OrdOkPost (w : World) (r : List Int) (o : Bool) (e : Ending) (w' : World) : Prop :=
  ∃ a c, e = .returned (.tuple #[.slice a r.length c, .bool o]) ∧ w'.ownsRow w.heap.size 3 1 (.slice a r.length c) r.length (ints r) ∧ Below w.heap.size w w'

theorem OrdOkPost.nil {w w' : World} {a : Option Addr} {c : Nat} (ho : w'.ownsRow w.heap.size 3 1 (.slice a 0 c) 0 []) (hb : Below w.heap.size w w') : OrdOkPost w [] false (.returned (.tuple #[.slice a 0 c, .bool false])) w' :=
  ⟨a, c, rfl, ho, hb⟩

theorem nil_own (w w' : World) : w'.ownsRow w.heap.size 3 1 (.slice none 0 0) 0 [] := ⟨rfl, .inl ⟨rfl, rfl⟩⟩

/-- What a bad argument is answered by. -/
theorem lit_post {w w1 : World} (hb : Below w.heap.size w w1) : OrdOkPost w [] false (.returned (.tuple #[.slice (some ⟨w1.heap.size, 0, none⟩) 0 0, .bool false])) (w1.alloc (.cells #[] 3)) :=
  ⟨_, 0, rfl, World.ownsRow_lit w1 #[] 0 (by have := hb.size; omega) (by simp [maxLen]) rfl, hb.alloc (by have := hb.size; omega) _⟩

end Go.Proofs.Ytlbaelehmoidpaa

/- HydC -/
/- HydraCut of the program. -/
namespace Go.Proofs.Ytlbaelehmoidpaa
set_option maxRecDepth 100000
open Go.RowKit

theorem isCopies_any (n : Int) (w : World) : Calls Try.prog 26 #[.int .i64 n] w fun e w' => e = .returned (.bool (decide (1 ≤ n ∧ n ≤ 9))) ∧ w = w' := by
  by_cases h1 : 1 ≤ n
  · by_cases h2 : n ≤ 9
    · rw [decide_eq_true ⟨h1, h2⟩]
      go_enter Try.func26, Try.ntmps26
      go_wp2_with fail
      go_ret
      exact ⟨rfl, rfl⟩
    · rw [decide_eq_false (fun h => h2 h.2)]
      go_enter Try.func26, Try.ntmps26
      go_wp2_with fail
      go_ret
      exact ⟨rfl, rfl⟩
  · rw [decide_eq_false (fun h => h1 h.1)]
    go_enter Try.func26, Try.ntmps26
    go_wp2_with fail
    go_ret
    exact ⟨rfl, rfl⟩

theorem Apart.below_of {p m : Nat} {w w1 w2 : World} (h : Apart p m w1 w2) (hb : Below w.heap.size w w1) (hp : w.heap.size ≤ p) : Below w.heap.size w w2 :=
  ⟨h.os.trans hb.os, h.tape.trans hb.tape, h.output.trans hb.output, Nat.le_trans hb.size h.size, fun k hk => (h.block k (Nat.lt_of_lt_of_le hk hb.size) (by omega)).trans (hb.block k hk)⟩

set_option maxHeartbeats 4000000 in
theorem impl_HydraCut (ao : Option Addr) (len cap : Nat) (xs : List Int) (h n : Int) (w : World) (hs : Sl w ao len cap xs) :
    Calls Try.prog 7 #[.slice ao len cap, .int .i64 h, .int .i64 n] w (OrdOkPost w (H.cutRow xs h n) (H.cutOkB xs h n)) := by
  have k1 := Lib.hid (isCopies_any n w)
  have k2 := Lib.hid (impl_HydraHeads ao len cap xs w hs)
  have hno : ∀ w' : World, OrdOkPost w [] false (.returned (.tuple #[.slice none 0 0, .bool false])) w := fun _ => OrdOkPost.nil (nil_own _ _) (Below.refl _ _)
  by_cases hn : 1 ≤ n ∧ n ≤ 9
  · rw [decide_eq_true hn] at k1
    by_cases hh : h < 0
    · have hb : H.cutOkB xs h n = false := H.cut_bad (fun h' => by omega)
      rw [H.cut_no hb, hb]
      clear hs hno hb
      go_enter Try.func7, Try.ntmps7
      go_wp2_with fail
      refine (k1.out).mono ?_
      rintro ee w' ⟨rfl, rfl⟩
      go_wp2_with fail
      go_ret2
      exact OrdOkPost.nil (nil_own _ _) (Below.refl _ _)
    · obtain ⟨q, hq⟩ : ∃ q, q = H.headsRow xs := ⟨_, rfl⟩
      rw [← hq] at k2
      by_cases hhq : h < q
      · obtain ⟨hN, rfl⟩ := Int.eq_ofNat_of_zero_le (show 0 ≤ h by omega)
        obtain ⟨nn, rfl⟩ := Int.eq_ofNat_of_zero_le (show 0 ≤ n by omega)
        have hv : H.hvB xs = true := by
          cases hv : H.hvB xs with
          | true => rfl
          | false =>
            rw [H.headsRow, if_neg (by rw [hv]; simp)] at hq
            omega
        obtain ⟨f, he, h60, hof⟩ := H.hv_of hv
        have hhb : H.headsRow xs ≤ 60 := by
          rw [H.headsRow, if_pos hv]
          have h3 := H.noughts_le (xs.drop 1)
          rw [List.length_drop] at h3
          have h4 : xs.length ≤ 60 := by rw [he]; exact h60
          omega
        subst he
        have hfl := H.enc_len f
        have hob : H.cutOkB f.enc hN nn = decide ((H.cut nn f hN).1.enc.length ≤ 60) := by
          rw [H.cutOkB, hv, ← hq, hof, decide_eq_true (show 1 ≤ ((nn : Nat) : Int) ∧ ((nn : Nat) : Int) ≤ 9 ∧ 0 ≤ ((hN : Nat) : Int) ∧ ((hN : Nat) : Int) < q from ⟨by omega, by omega, by omega, hhq⟩)]
          rfl
        have hrow : H.cutRow f.enc hN nn = if decide ((H.cut nn f hN).1.enc.length ≤ 60) = true then (H.cut nn f hN).1.enc else [] := by
          rw [H.cutRow, hob, hof]; rfl
        rw [hob, hrow]
        have hcl := (H.cut_len nn (by omega) f hN).1
        obtain ⟨R, hR⟩ : ∃ R, R = (H.cut nn f hN).1 := ⟨_, rfl⟩
        have hRl : R.enc.length ≤ 10000 := by
          rw [hR, H.enc_len]
          have : nn * f.body.length ≤ 9 * f.body.length := Nat.mul_le_mul_right _ (by omega)
          omega
        have k3 := Lib.hid (treeOf_any ao len cap f w hs (by rw [← hs.1]; exact h60))
        have K4 := Lib.hid (fun w1 (hn : Nd w1 f w.heap.size w1.heap.size) => node_cut nn (by omega) (by omega) (f.body.length + 1) f w.heap.size w1.heap.size hN w1 (by omega) (by omega) (by omega) hn)
        have K5 := Lib.hid (fun w2 (hn : RNd w2 R w.heap.size) => node_row (R.body.length + 1) R w.heap.size w2 (by omega) hRl hn)
        unfold CutPost at K4
        unfold RowPost at K5
        rw [← hR] at K4 ⊢
        have hlt' : ¬ ((q : Int) ≤ (hN : Int)) := by omega
        have Hq := Lib.hid hq
        clear hs hv h60 hof hq hob hrow hR hfl hcl hhb hno
        have hfin : ∀ a5 c5 w1 w2 w5, Below w.heap.size w w1 → Apart w.heap.size w1.heap.size w1 w2 → w5.ownsRow w2.heap.size 3 1 (.slice a5 R.enc.length c5) R.enc.length (ints R.enc) → Below w2.heap.size w2 w5 →
            OrdOkPost w R.enc true (.returned (.tuple #[.slice a5 R.enc.length c5, .bool true])) w5 ∧ Below w.heap.size w w5 := by
          intro a5 c5 w1 w2 w5 hb hA ho hb5
          have hb2 := hA.below_of hb (Nat.le_refl _)
          have hb6 := hb2.trans (hb5.mono hb2.size)
          exact ⟨⟨a5, c5, rfl, Joins.ownsRow_le ho hb2.size, hb6⟩, hb6⟩
        have Hfin := Lib.hid hfin
        clear hfin
        by_cases hl6 : R.enc.length ≤ 60
        · rw [decide_eq_true hl6, if_pos rfl]
          obtain ⟨L, hL⟩ : ∃ L, L = R.enc.length := ⟨_, rfl⟩
          rw [← hL] at K5 hl6 hRl
          have HL := Lib.hid hL
          clear hL
          go_enter Try.func7, Try.ntmps7
          go_wp2_with fail
          refine (k1.out).mono ?_
          rintro ee w' ⟨rfl, rfl⟩
          go_wp2_with fail
          refine (k2.out).mono ?_
          rintro ee w' ⟨rfl, rfl⟩
          go_wp2_with fail
          refine (k3.out).mono ?_
          rintro ee w1 ⟨rfl, hnd, hb⟩
          have k4 := Lib.hid (K4.out w1 hnd)
          have Hb := Lib.hid hb
          clear hnd hb
          go_wp2_with fail
          refine (k4.out).mono ?_
          rintro ee w2 ⟨rfl, hrs, hA⟩
          have k5 := Lib.hid (K5.out w2 hrs.rnd)
          have HA := Lib.hid hA
          clear hrs hA
          go_wp2_with fail
          refine (k5.out).mono ?_
          rintro ee w5 ⟨a5, c5, rfl, ho5, hb5⟩
          have Hf := Lib.hid (Hfin.out a5 c5 w1 w2 w5 Hb.out HA.out (by rw [← HL.out]; exact ho5) hb5).1
          clear ho5 hb5
          rw [← HL.out] at Hf
          go_wp2_with fail
          go_ret2
          exact Hf.out
        · rw [decide_eq_false hl6, if_neg (by simp)]
          obtain ⟨L, hL⟩ : ∃ L, L = R.enc.length := ⟨_, rfl⟩
          rw [← hL] at K5 hl6 hRl
          have HL := Lib.hid hL
          clear hL
          go_enter Try.func7, Try.ntmps7
          go_wp2_with fail
          refine (k1.out).mono ?_
          rintro ee w' ⟨rfl, rfl⟩
          go_wp2_with fail
          refine (k2.out).mono ?_
          rintro ee w' ⟨rfl, rfl⟩
          go_wp2_with fail
          refine (k3.out).mono ?_
          rintro ee w1 ⟨rfl, hnd, hb⟩
          have k4 := Lib.hid (K4.out w1 hnd)
          have Hb := Lib.hid hb
          clear hnd hb
          go_wp2_with fail
          refine (k4.out).mono ?_
          rintro ee w2 ⟨rfl, hrs, hA⟩
          have k5 := Lib.hid (K5.out w2 hrs.rnd)
          have HA := Lib.hid hA
          clear hrs hA
          go_wp2_with fail
          refine (k5.out).mono ?_
          rintro ee w5 ⟨a5, c5, rfl, ho5, hb5⟩
          have Hf := Lib.hid (Hfin.out a5 c5 w1 w2 w5 Hb.out HA.out (by rw [← HL.out]; exact ho5) hb5).2
          clear ho5 hb5
          go_wp2_with fail
          go_ret2
          exact OrdOkPost.nil (nil_own _ _) Hf.out
      · have hb : H.cutOkB xs h n = false := H.cut_bad (fun h' => by omega)
        rw [H.cut_no hb, hb]
        clear hs hno hb hq
        go_enter Try.func7, Try.ntmps7
        go_wp2_with fail
        refine (k1.out).mono ?_
        rintro ee w' ⟨rfl, rfl⟩
        go_wp2_with fail
        refine (k2.out).mono ?_
        rintro ee w' ⟨rfl, rfl⟩
        go_wp2_with fail
        go_ret2
        exact OrdOkPost.nil (nil_own _ _) (Below.refl _ _)
  · have hb : H.cutOkB xs h n = false := H.cut_bad (fun h' => hn ⟨h'.2.1, h'.2.2.1⟩)
    rw [H.cut_no hb, hb]
    rw [decide_eq_false hn] at k1
    clear hs hno hb
    go_enter Try.func7, Try.ntmps7
    go_wp2_with fail
    refine (k1.out).mono ?_
    rintro ee w' ⟨rfl, rfl⟩
    go_wp2_with fail
    go_ret2
    exact OrdOkPost.nil (nil_own _ _) (Below.refl _ _)

end Go.Proofs.Ytlbaelehmoidpaa

/- TermsB -/
/- The terms once more: their exponents lie in the block of the ordinal itself. -/
namespace Go.Proofs.Ytlbaelehmoidpaa
set_option maxRecDepth 100000
open Go.RowKit

/-- Terms, as cells in memory: their exponents lie in block b. -/
def TB (w : World) (b : Nat) : T → List Value → Prop
  | .z, cs => cs = []
  | .c n e r, cs => ∃ off cap cs', cs = .int .i64 n :: .slice (some ⟨b, off, none⟩) e.enc.length cap :: cs' ∧ At w b off e.enc ∧ e.enc.length ≤ cap ∧ cap ≤ maxLen ∧ TB w b r cs'

theorem TB.snoc {w : World} {B : Nat} {t : T} {cs : List Value} {n : Int} {e : T} {off cap : Nat} (h : TB w B t cs) (ha : At w B off e.enc) (hc : e.enc.length ≤ cap) (hm : cap ≤ maxLen) :
    TB w B (t.app (.c n e .z)) (cs ++ [.int .i64 n, .slice (some ⟨B, off, none⟩) e.enc.length cap]) := by
  induction t generalizing cs with
  | z => simp only [TB] at h; subst h; exact ⟨off, cap, [], rfl, ha, hc, hm, rfl⟩
  | c m f r _ ih =>
    obtain ⟨off', cap', cs', rfl, h1, h2, h3, h4⟩ := h
    exact ⟨off', cap', _, rfl, h1, h2, h3, ih h4⟩

theorem TB.length {w : World} {B : Nat} {t : T} {cs : List Value} (h : TB w B t cs) : cs.length = 2 * t.cnt := by
  induction t generalizing cs with
  | z => simp only [TB] at h; subst h; rfl
  | c m f r _ ih =>
    obtain ⟨off', cap', cs', rfl, h1, h2, h3, h4⟩ := h
    simp [T.cnt, ih h4]; omega

theorem TB.pick {w : World} {B : Nat} {t d e r : T} {x : Int} {cs : List Value} {k : Nat} (h : TB w B t cs) (h1 : d.app (.c x e r) = t) (h2 : d.cnt = k) :
    ∃ off cap, cs[2 * k]? = some (.int .i64 x) ∧ cs[2 * k + 1]? = some (.slice (some ⟨B, off, none⟩) e.enc.length cap) ∧ At w B off e.enc ∧ e.enc.length ≤ cap ∧ cap ≤ maxLen := by
  induction d generalizing t cs k with
  | z =>
    subst h1; subst h2
    obtain ⟨off', cap', cs', rfl, h3, h4, h5, h6⟩ := h
    exact ⟨off', cap', rfl, rfl, h3, h4, h5⟩
  | c m f q _ ih =>
    subst h1; subst h2
    obtain ⟨off', cap', cs', rfl, h3, h4, h5, h6⟩ := h
    obtain ⟨o, c, k1, k2, k3⟩ := ih h6 rfl rfl
    refine ⟨o, c, ?_, ?_, k3⟩
    · rw [T.cnt, show 2 * (q.cnt + 1) = 2 * q.cnt + 1 + 1 by omega, List.getElem?_cons_succ, List.getElem?_cons_succ]; exact k1
    · rw [T.cnt, show 2 * (q.cnt + 1) + 1 = 2 * q.cnt + 1 + 1 + 1 by omega, List.getElem?_cons_succ, List.getElem?_cons_succ]; exact k2

set_option maxHeartbeats 1000000 in
theorem termsOf_in (b off len cap : Nat) (xs : List Int) (t : T) (w : World) (hl : xs.length = len) (hb : len ≤ 1000000000000) (hlc : len ≤ cap) (hcm : cap ≤ maxLen) (hat : At w b off xs) (hx : xs = t.enc) :
    Calls Try.prog 39 #[.slice (some ⟨b, off, none⟩) len cap] w fun e w' => ∃ cs, e = .returned (.slice (some ⟨w.heap.size, 0, none⟩) t.cnt t.cnt) ∧
      w'.ownsRow w.heap.size 57 2 (.slice (some ⟨w.heap.size, 0, none⟩) t.cnt t.cnt) t.cnt cs ∧ TB w b t cs ∧ Below w.heap.size w w' := by
  have h0 : xs.drop 0 = (t.cnt : Int) :: t.body := by rw [hx]; rfl
  have hel : t.body.length + 1 = len := by rw [← hl, hx, T.enc_len]
  have hc0 : w.cell? ⟨b, off, none⟩ = some (.int .i64 t.cnt) := by simpa using hat.get h0
  have hcl : t.cnt ≤ len := by have := T.cnt_le t; omega
  have hp : 0 < len := by omega
  obtain ⟨i0, hi, hz0, hz1, hz2⟩ := info_parts info_term
  have H0 := Lib.hid (drop_more h0)
  have H1 := Lib.hid hx
  have H2 := Lib.hid hl
  have H3 := Lib.hid hel
  clear h0 hx hl hel
  go_enter Try.func39, Try.ntmps39
  go_wp2_with (first
    | (at_make; refine wpList_make_full _ rfl (.tmp 9) (.tmp 9) 54 rfl w.heap.size 57 i0 _ 2 Try.underlying54 hi hz0 hz1 .i64 .i64 _ _ t.cnt rfl rfl rfl rfl (by rw [hz2]; omega) (by unfold maxLen; omega) (Nat.le_refl _) ?_; intro w1 hown hg1))
  go_loopw [4, 13] (fun i j wr => ∃ (a k : Nat) (d u : T) (cs zs : List Value), 1 ≤ a ∧ a ≤ len ∧ k ≤ t.cnt ∧ Hid (a + u.body.length = len ∧ d.app u = t ∧ xs.drop a = u.body ∧ d.cnt = k ∧ zs.length = 2 * u.cnt) ∧ i = .int .i64 a ∧ j = .int .i64 k ∧
      wr.ownsRow w.heap.size 57 2 (.slice (some ⟨w.heap.size, 0, none⟩) t.cnt t.cnt) t.cnt (cs ++ zs) ∧ TB w b d cs ∧ Below w.heap.size w wr) (fun _ j _ => t.cnt - (intOf j).toNat)
  case atStart =>
    refine ⟨1, 0, .z, t, [], (madeCells (Value.agg #[.int .i64 0, .slice none 0 0]).cells (t.cnt * 2)).toList, by omega, by omega, by omega, ⟨by have := H3.out; omega, rfl, H0.out, rfl, ?_⟩, rfl, rfl, hown, rfl, (Below.refl _ _).grown hg1 (Nat.le_refl _) (fun k hk => by cases hk)⟩
    have := hown.1
    omega
  case round =>
    obtain ⟨a, k, d, u, cs, zs, ha1, ha2, hk, HU, rfl, rfl, ho, hT, hbel⟩ := hrel
    obtain ⟨h1, h2, h3, h4, h5⟩ := HU.out
    by_cases hlt : k < t.cnt
    · obtain ⟨n, e, r, rfl⟩ : ∃ n e r, u = .c n e r := T.cnt_pos (by have := T.app_cnt d u; rw [h2] at this; omega)
      have hd0 : xs.drop a = n :: (e.enc ++ r.body) := by rw [h3, T.body_c]
      have hbw : b < w.heap.size := hat.lt (by rw [H1.out]; exact T.enc_ne t)
      have hc1 := (hbel.cell (p := ⟨b, off + a, none⟩) (by exact hbw)).trans (hat.get hd0)
      have hd1 := drop_more hd0
      have hee := T.enc_len e
      have hal : a + 1 + e.enc.length + r.body.length = len := by rw [T.body_c] at h1; simp at h1; omega
      have hal2 : a + 1 + e.enc.length ≤ len := by omega
      have hpos : 1 ≤ e.enc.length := by omega
      have hatw : At wr b (off + (a + 1)) (xs.drop (a + 1)) := (hat.below hbel hbw).drop (a + 1)
      have hate : At w b (off + (a + 1)) e.enc := (hd1 ▸ hat.drop (a + 1)).left
      have lo := fun c => Lib.hid (lengthOfOrd_any b (off + (a + 1)) (len - (a + 1)) c (xs.drop (a + 1)) r.body e wr (by rw [List.length_drop, H2.out]) (by omega) hatw hd1)
      have Hal := Lib.hid hal
      have Hd2 := Lib.hid (drop_app hd1)
      have Happ := Lib.hid h2
      have Hate := Lib.hid hate
      have Hbel := Lib.hid hbel
      have hsz := hbel.size
      have hcsl := hT.length
      obtain ⟨z1, z2, zs', rfl⟩ : ∃ z1 z2 zs', zs = z1 :: z2 :: zs' := by
        match zs, h5 with
        | z1 :: z2 :: zs', _ => exact ⟨z1, z2, zs', rfl⟩
        | [_], h5 => simp [T.cnt] at h5; omega
        | [], h5 => simp [T.cnt] at h5
      have hk1 : wr.cell? ⟨w.heap.size, k * 2, none⟩ = some z1 := by
        rw [ho.cellAt _ (by omega), List.getElem?_append_right (by omega), show k * 2 - cs.length = 0 by omega]; rfl
      have hk2 : wr.cell? ⟨w.heap.size, k * 2 + 1, none⟩ = some z2 := by
        rw [ho.cellAt _ (by omega), List.getElem?_append_right (by omega), show k * 2 + 1 - cs.length = 1 by omega]; rfl
      have hf1 := ho.frozenAt (k * 2)
      have hf2 := ho.frozenAt (k * 2 + 1)
      clear h1 h2 h3 h4 h5 hd0 hd1 hee hal hatw hate hbel hcsl
      go_wp2_with fail
      refine ((lo _).out).mono ?_
      rintro ee w' ⟨rfl, rfl⟩
      go_wp2_with fail
      go_region
      go_wp2_with fail
      go_roundw
      case rel =>
        have h6 := HU.out
        refine ⟨a + 1 + e.enc.length, k + 1, d.app (.c n e .z), r, cs ++ [.int .i64 n, .slice (some ⟨b, off + (a + 1), none⟩) e.enc.length (cap - (a + 1))], zs', by omega, by omega, by omega, ⟨Hal.out, ?_, Hd2.out, ?_, ?_⟩, by go_num, by go_num, ?_, hT.snoc Hate.out (by omega) (by omega), ?_⟩
        · rw [T.app_assoc]; exact Happ.out
        · rw [T.app_cnt, h6.2.2.2.1]; rfl
        · have := h6.2.2.2.2; simp [T.cnt] at this; omega
        · have h7 := ((ho.stored (k * 2) (.int .i64 n)).1.stored (k * 2 + 1) (.slice (some ⟨b, off + (a + 1), none⟩) e.enc.length (cap - (a + 1)))).1
          rw [set_two _ _ _ _ _ _ _ (by rw [hT.length, h6.2.2.2.1, Nat.mul_comm])] at h7
          exact h7.drew
        · exact ((Hbel.out.setCell (p := ⟨w.heap.size, k * 2, none⟩) (Nat.le_refl _) _).setCell (p := ⟨w.heap.size, k * 2 + 1, none⟩) (Nat.le_refl _) _).drew
      case measure => simp [intOf]; omega
    · have hu : u = .z := T.cnt_zero (by have := T.app_cnt d u; rw [h2] at this; omega)
      subst hu
      have hdt : d = t := by rw [T.app_z] at h2; exact h2
      subst hdt
      have hzs : zs = [] := by simpa [T.cnt] using h5
      subst hzs
      clear h1 h2 h3 h4 h5
      go_wp2_with fail
      go_ret
      exact ⟨_, rfl, by simpa using ho, hT, hbel⟩


end Go.Proofs.Ytlbaelehmoidpaa

/- HydP -/
/- HydraOf, the program's. -/
namespace Go.Proofs.Ytlbaelehmoidpaa
set_option maxRecDepth 100000
open Go.RowKit

theorem At.back {w w' : World} {B b off : Nat} {xs : List Int} (h : At w' b off xs) (hb : Below B w w') (hB : b < B) : At w b off xs := by
  intro j hj
  rw [← hb.cell (p := ⟨b, off + j, none⟩) hB]
  exact h j hj

theorem set_zero (x y : Int) (xs : List Int) : (ints (x :: xs)).set 0 (.int .i64 y) = ints (y :: xs) := rfl

def OfRel (w : World) (t : T) (cn g : Nat) (cs : List Value) (v4 v16 : Value) (wr : World) : Prop :=
  ∃ (i m g4 c4 : Nat) (d u : T), i ≤ cn ∧ Hid (d.app u = t ∧ d.cnt = i ∧ i + u.cnt = cn) ∧ v16 = .int .i64 i ∧ m = (T.hyd d).enc.length ∧ m ≤ 60 ∧ v4 = .slice (some ⟨g4, 0, none⟩) m c4 ∧
    wr.ownsRow w.heap.size 3 1 v4 m (ints (T.hyd d).enc) ∧ wr.ownsRow w.heap.size 57 2 (.slice (some ⟨g, 0, none⟩) cn cn) cn cs ∧ Below w.heap.size w wr

set_option maxHeartbeats 4000000 in
theorem impl_hydraOf (N : Nat) : ∀ (b off n cap : Nat) (t : T) (w : World), t.body.length < N → n = t.enc.length → n ≤ 60 → n ≤ cap → cap ≤ maxLen → At w b off t.enc → t.Nf →
    Calls Try.prog 18 #[.slice (some ⟨b, off, none⟩) n cap] w (OrdOkPost w (T.hydFit t) (T.hydOk t)) := by
  induction N with
  | zero => intro b off n cap t w h; omega
  | succ N ih =>
    intro b off n cap t w hN hn hb hc hm hat hnf
    obtain ⟨i0, hi, hz0, hz1, hz2⟩ := info_parts info_int
    have IH := Lib.hid ih
    have HA := Lib.hid hat
    have Hn := Lib.hid hn
    have HN := Lib.hid hN
    have HF := Lib.hid hnf
    have hbl : b < w.heap.size := hat.lt (T.enc_ne t)
    have k1 := Lib.hid (impl_valid (some ⟨b, off, none⟩) n cap t.enc w ⟨hn.symm, hc, hm, fun _ => ⟨b, off, rfl, hat⟩⟩ (T.vld_mk hnf (by omega)))
    have hct := T.cnt_le t
    have hel := T.enc_len t
    obtain ⟨rf, hrf⟩ : ∃ rf, rf = T.hydFit t := ⟨_, rfl⟩
    obtain ⟨ro, hro⟩ : ∃ ro, ro = T.hydOk t := ⟨_, rfl⟩
    rw [← hrf, ← hro]
    have hnil : T.hydOk t = false → ∀ wx, Below w.heap.size w wx → OrdOkPost w rf ro (.returned (.tuple #[.slice none 0 0, .bool false])) wx := by
      intro h wx hbx
      rw [hrf, hro, T.hydFit_no h, h]
      exact OrdOkPost.nil (nil_own w wx) hbx
    have hyes : T.hydOk t = true → ∀ wx a c, wx.ownsRow w.heap.size 3 1 (.slice a (T.hyd t).enc.length c) (T.hyd t).enc.length (ints (T.hyd t).enc) → Below w.heap.size w wx → OrdOkPost w rf ro (.returned (.tuple #[.slice a (T.hyd t).enc.length c, .bool true])) wx := by
      intro h wx a c ho hbx
      rw [hrf, hro, T.hydFit_yes h, h]
      exact ⟨a, c, rfl, ho, hbx⟩
    have Hnil := Lib.hid hnil
    have Hyes := Lib.hid hyes
    clear ih hN hn hat hnf hnil hyes hrf hro
    go_enter Try.func18, Try.ntmps18
    go_wp2_with fail
    refine (k1.out).mono ?_
    rintro ee w0 ⟨rfl, hb0⟩
    obtain ⟨W1, hW1⟩ : ∃ W1, W1 = w0.alloc (.cells #[.int .i64 0] 3) := ⟨_, rfl⟩
    have hb1 : Below w.heap.size w W1 := by rw [hW1]; exact hb0.alloc hb0.size _
    have ho1 : W1.ownsRow w.heap.size 3 1 (.slice (some ⟨w0.heap.size, 0, none⟩) 1 1) 1 (ints (T.hyd .z).enc) := by
      rw [hW1]; exact World.ownsRow_lit w0 #[.int .i64 0] 1 hb0.size (by simp [maxLen]) rfl
    have kt := Lib.hid (termsOf_in b off n cap t.enc t W1 Hn.out.symm (by omega) hc hm (HA.out.below hb1 hbl) rfl)
    have HW1 := Lib.hid hW1.symm
    have Hb1 := Lib.hid hb1
    have Ho1 := Lib.hid ho1
    clear hb0 hW1 hb1 ho1
    go_wp2_with fail
    rw [HW1.out]
    refine (kt.out).mono ?_
    rintro ee w2 ⟨cs, rfl, ho, hT, hb2⟩
    obtain ⟨cn, hcn⟩ : ∃ cn, cn = t.cnt := ⟨_, rfl⟩
    rw [← hcn] at ho ⊢
    have hcb : cn ≤ 60 := by have := Hn.out; omega
    obtain ⟨g, hg⟩ : ∃ g, g = W1.heap.size := ⟨_, rfl⟩
    rw [← hg] at ho ⊢
    have hst : OfRel w t cn g cs (.slice (some ⟨w0.heap.size, 0, none⟩) 1 1) (.int .i64 ((0 : Nat) : Int)) w2 :=
      ⟨0, 1, w0.heap.size, 1, .z, t, Nat.zero_le _, ⟨rfl, rfl, by omega⟩, rfl, rfl, by decide, rfl, ownsRow_below' Ho1.out hb2, Joins.ownsRow_le ho (by rw [hg]; exact Hb1.out.size), Hb1.out.trans (hb2.mono Hb1.out.size)⟩
    have Hst := Lib.hid hst
    have HT := Lib.hid hT
    have Hcn := Lib.hid hcn
    clear hcn hg ho hb2 hst hT
    go_wp2_with fail
    go_loopw [4, 16] (fun v4 v16 wr => OfRel w t cn g cs v4 v16 wr) (fun _ i _ => cn - (intOf i).toNat)
    case atStart => exact Hst.out
    case round =>
      obtain ⟨i, m, g4, c4, d, u, hi1, HU, rfl, hm1, hm60, rfl, ho, hot, hbr⟩ := hrel
      obtain ⟨h1, h2, h3⟩ := HU.out
      have Hm := Lib.hid hm1
      by_cases hlt : i < cn
      · obtain ⟨x, e, r, rfl⟩ : ∃ x e r, u = .c x e r := T.cnt_pos (by omega)
        obtain ⟨hx1, hx2, hne⟩ := T.part_nf h1 HF.out
        obtain ⟨xn, rfl⟩ := Int.eq_ofNat_of_zero_le (show 0 ≤ x by omega)
        obtain ⟨oe, ce, p1, p2, p3, p4, p5⟩ := HT.out.pick h1 h2
        have y0 : wr.cell? ⟨g, i * 2, none⟩ = some (.int .i64 xn) := (hot.cellAt (i * 2) (by omega)).trans (by rw [Nat.mul_comm]; exact p1)
        have y1 : wr.cell? ⟨g, i * 2 + 1, none⟩ = some (.slice (some ⟨b, oe, none⟩) e.enc.length ce) := (hot.cellAt (i * 2 + 1) (by omega)).trans (by rw [Nat.mul_comm]; exact p2)
        have hpl := T.part_len h1
        have hpart := T.hyd_part h1
        have hbad : T.hydOk e = false → T.hydOk t = false := fun h => T.hyd_bad h1 (by omega) h
        obtain ⟨W, hW⟩ : ∃ W, W = wr.alloc (.cells #[.int .i64 xn, .slice (some ⟨b, oe, none⟩) e.enc.length ce] 57) := ⟨_, rfl⟩
        have hbW : Below w.heap.size w W := by rw [hW]; exact hbr.alloc hbr.size _
        have z0 : W.cell? ⟨wr.heap.size, 0, none⟩ = some (.int .i64 xn) := by rw [hW, Joins.cell_alloc_mark_at _ _ _ _ _ _ rfl]; rfl
        have z1 : W.cell? ⟨wr.heap.size, 1, none⟩ = some (.slice (some ⟨b, oe, none⟩) e.enc.length ce) := by rw [hW, Joins.cell_alloc_mark_at _ _ _ _ _ _ rfl]; rfl
        have hwl : wr.heap.size < W.heap.size := by rw [hW]; simp
        have hoW : W.ownsRow w.heap.size 3 1 (.slice (some ⟨g4, 0, none⟩) m c4) m (ints (T.hyd d).enc) := by rw [hW]; exact ho.alloc _
        have hotW : W.ownsRow w.heap.size 57 2 (.slice (some ⟨g, 0, none⟩) cn cn) cn cs := by rw [hW]; exact hot.alloc _
        have hatW : At W b oe e.enc := (p3.back Hb1.out hbl).below hbW hbl
        have kt2 := Lib.hid (IH.out b oe e.enc.length ce e W (by have := HN.out; omega) rfl (by have := Hn.out; omega) p4 p5 hatW hne)
        have HW := Lib.hid hW.symm
        have HbW := Lib.hid hbW
        have HoW := Lib.hid hoW
        have HotW := Lib.hid hotW
        have Z0 := Lib.hid z0
        unfold OrdOkPost at kt2
        rcases T.hydOk_tf e with hk | hk
        · rw [T.hydFit_yes hk, hk] at kt2
          have hL1 := T.hyd_len_pos e
          have hL60 := T.hydOk_true.1 hk
          obtain ⟨L, hL⟩ : ∃ L, L = (T.hyd e).enc.length := ⟨_, rfl⟩
          obtain ⟨Y, hY⟩ : ∃ Y, Y = L * xn := ⟨_, rfl⟩
          rw [← hL, show ((xn : Nat) : Int).toNat = xn from rfl, ← hY, ← hm1] at hpart
          rw [← hL] at kt2 hL1 hL60
          have hYb : Y ≤ 600000 := by rw [hY]; have := Nat.mul_le_mul hL60 (show xn ≤ 9999 by omega); omega
          have hYx : xn ≤ Y := by rw [hY]; have := Nat.mul_le_mul hL1 (Nat.le_refl xn); omega
          have hwY : IntKind.i64.wrap ((xn : Int) * (L : Int)) = (Y : Int) := by
            rw [hY, Nat.mul_comm, Int.natCast_mul]
            exact IntWalk.i64_in _ (by rw [← Int.natCast_mul, Nat.mul_comm, ← hY]; omega)
          have hg4 : g4 < wr.heap.size := (ho.lt g4 rfl).2
          have hg4w : w.heap.size ≤ g4 := (ho.lt g4 rfl).1
          have HL := Lib.hid hL
          have HY := Lib.hid hY
          have hd0 : (T.hyd d).enc = ((T.hyd d).cnt : Int) :: (T.hyd d).body := rfl
          obtain ⟨D, hD⟩ : ∃ D, D = (T.hyd d).cnt := ⟨_, rfl⟩
          have hD60 : D ≤ 60 := by have := H.cnt_le (T.hyd d); have := H.enc_len (T.hyd d); omega
          have HD := Lib.hid hD
          clear hL hY hD h1 h2 h3 p1 p2 p3 p4 p5 hbW hatW hbr hW hpl hbad ho hot hoW hotW hm1 z0 z1
          go_wp2_with fail
          rw [HW.out]
          refine (kt2.out).mono ?_
          rintro ee w3 ⟨a8, c8, rfl, ho8, hb3⟩
          have Hb3 := Lib.hid (HbW.out.trans (hb3.mono HbW.out.size))
          have zb : w3.cell? ⟨wr.heap.size, 0, none⟩ = some (.int .i64 xn) := (hb3.cell (p := ⟨wr.heap.size, 0, none⟩) hwl).trans Z0.out
          have ho3 := ownsRow_below' HoW.out hb3
          have hot3 := ownsRow_below' HotW.out hb3
          have Ho3 := Lib.hid ho3
          have Hot3 := Lib.hid hot3
          have Ho8 := Lib.hid ho8
          by_cases hsum : 60 < m + Y
          · have hts := T.hydOk_false.2 (show 60 < (T.hyd t).enc.length by omega)
            have Hts := Lib.hid hts
            clear hts ho3 hot3 ho8 hb3 hpart
            go_wp2_with fail
            go_ret2
            exact Hnil.out Hts.out _ Hb3.out
          · have zh : w3.cell? ⟨g4, 0, none⟩ = some (.int .i64 D) := by
              rw [ho3.cellAt 0 (by have := H.enc_len (T.hyd d); have := Hm.out; omega), hd0, HD.out]; rfl
            have fh := ho3.frozenAt 0
            have hm0 : 0 < m := by have := H.enc_len (T.hyd d); have := Hm.out; omega
            clear ho3 hot3 ho8 hb3 hpart
            go_wp2_with fail
            go_region
            obtain ⟨W4, hW4⟩ : ∃ W4, W4 = (w3.setCell ⟨g4, 0, none⟩ (.int .i64 ((D : Int) + (xn : Int)))).drew := ⟨_, rfl⟩
            have hst0 := Ho3.out.stored 0 (.int .i64 ((D : Int) + (xn : Int)))
            rw [hd0, set_zero] at hst0
            have hgr : w3.grownBy W4 (some g4) := by rw [hW4]; have h := hst0.2; exact ⟨h.os, h.tape, h.output, h.size, h.block⟩
            have ho4 : W4.ownsRow w.heap.size 3 1 (.slice (some ⟨g4, 0, none⟩) m c4) m (ints (((D : Int) + (xn : Int)) :: (T.hyd d).body)) := by rw [hW4]; exact hst0.1.drew
            have hot4 : W4.ownsRow w.heap.size 57 2 (.slice (some ⟨g, 0, none⟩) cn cn) cn cs := Hot3.out.kept hgr (own_ne Hot3.out Ho3.out (by decide))
            have hb4 : Below w.heap.size w W4 := by rw [hW4]; exact (Hb3.out.setCell (p := ⟨g4, 0, none⟩) hg4w _).drew
            have zb4 : W4.cell? ⟨wr.heap.size, 0, none⟩ = some (.int .i64 xn) := hgr.cell zb (by simp; omega)
            have ho84 : W4.ownsRow W.heap.size 3 1 (.slice a8 L c8) L (ints (T.hyd e).enc) := Ho8.out.kept hgr (.inr (fun he => by have := (Ho8.out.lt g4 he).1; omega))
            obtain ⟨g8, c8', hv8⟩ := Joins.ownsRow_form ho84 (by omega)
            simp only [Value.slice.injEq, true_and] at hv8
            obtain ⟨rfl, rfl⟩ := hv8
            obtain ⟨q1, q2, q3, q4⟩ := Sl.of_own ho84
            obtain ⟨b8, o8, q5, q6⟩ := q4 (by omega)
            cases q5
            have hYs : Y ≤ 60 := by omega
            have kr := Lib.hid (repeatI_any g8 0 L c8 xn (T.hyd e).enc W4 q1 hL1 (by omega) (by rw [← HY.out]; omega) q6)
            rw [← HY.out] at kr
            have HW4 := Lib.hid hW4.symm
            have Ho4 := Lib.hid ho4
            have Hot4 := Lib.hid hot4
            have Hb4 := Lib.hid hb4
            have hs4 := hb4.size
            clear hW4 hst0 hgr ho4 hot4 hb4 ho84 q1 q2 q3 q4 q6 zb zh fh
            rw [HW4.out]
            go_wp2_with fail
            refine (kr.out).mono ?_
            rintro ee w5 ⟨rfl, ho5, hb5⟩
            have Ho45 := Lib.hid (ownsRow_below' Ho4.out hb5)
            have Hot5 := Lib.hid (ownsRow_below' Hot4.out hb5)
            have Hb5 := Lib.hid (Hb4.out.trans (hb5.mono hs4))
            have hs5 := hb5.size
            have Hn5 := Lib.hid (show ∀ j u, (ints (Rp xn (T.hyd e).enc))[j]? = some u → w5.cell? ((⟨W4.heap.size, 0, none⟩ : Addr).add j) = some u from fun j u hj => by
              have h9 := ho5.cells (g := W4.heap.size) rfl j u hj
              exact h9)
            have Hl5 := Lib.hid (show (ints (Rp xn (T.hyd e).enc)).length = Y * 1 by have := ho5.1; exact this)
            clear ho5 hb5
            go_wp2_with (first
              | (at_builtin; refine wpList_append_own _ rfl (.tmp 46) (.tmp 50) 23 rfl w.heap.size 3 i0 (.int .i64 0) 1 8 Try.underlying23 hi hz0 hz1 hz2 rfl (by decide) _ _ _ rfl Ho45.out ⟨W4.heap.size, 0, none⟩ Y Y (ints (Rp xn (T.hyd e).enc)) rfl Hl5.out Hn5.out (ints_one _) (by unfold maxLen; omega) (by omega) (by omega) ?_; intro v6 w6 ho6 hg6 _))
            obtain ⟨g6, c6, rfl⟩ := Joins.ownsRow_form ho6 (by omega)
            have hfin : OfRel w t cn g cs (.slice (some ⟨g6, 0, none⟩) (m + Y) c6) (.int .i64 ((i + 1 : Nat) : Int)) w6 := by
              obtain ⟨h1, h2, h3⟩ := HU.out
              have hln : m + Y = (T.hyd (d.app (.c xn e .z))).enc.length := by
                rw [T.hyd_snoc_len, ← HL.out, show ((xn : Nat) : Int).toNat = xn from rfl, ← HY.out, ← Hm.out]
              refine ⟨i + 1, m + Y, g6, c6, d.app (.c xn e .z), r, by omega, ⟨by rw [T.app_assoc]; exact h1, by rw [T.app_cnt, h2]; rfl, by simp only [T.cnt] at h3; omega⟩, rfl, hln, by omega, rfl, ?_, Hot5.out.kept hg6 (own_ne Hot5.out Ho45.out (by decide)), Hb5.out.grown hg6 (by omega) (fun k hk => (Ho45.out.lt k hk).1)⟩
              rw [T.hyd_snoc_enc, show ((xn : Nat) : Int).toNat = xn from rfl, ← HD.out]
              have e1 : ints (((D + xn : Nat) : Int) :: ((T.hyd d).body ++ Rp xn (T.hyd e).enc)) = ints (((D : Int) + (xn : Int)) :: (T.hyd d).body) ++ ints (Rp xn (T.hyd e).enc) := by
                simp [ints]
              rw [e1]
              exact ho6
            have Hfin := Lib.hid hfin
            clear ho6 hg6 hfin
            go_wp2_with fail
            go_roundw
            case rel => exact Hfin.out
            case measure => simp [intOf]; omega
        · rw [T.hydFit_no hk, hk] at kt2
          have Hts := Lib.hid (hbad hk)
          clear h1 h2 h3 p1 p2 p3 p4 p5 hbW hatW hbr hW hpl hbad ho hot hoW hotW hm1 z0 z1 hpart
          go_wp2_with fail
          rw [HW.out]
          refine (kt2.out).mono ?_
          rintro ee w3 ⟨a8, c8, rfl, ho8, hb3⟩
          have Hb3 := Lib.hid (HbW.out.trans (hb3.mono HbW.out.size))
          clear ho8 hb3
          go_wp2_with fail
          go_ret2
          exact Hnil.out Hts.out _ Hb3.out
      · have hu : u = .z := T.cnt_zero (by omega)
        subst hu
        have hdt : d = t := by rw [T.app_z] at h1; exact h1
        subst hdt
        subst hm1
        have Ho := Lib.hid ho
        have Hbr := Lib.hid hbr
        clear h1 h2 h3 ho hot hbr
        go_wp2_with fail
        go_ret2
        exact Hyes.out (T.hydOk_true.2 hm60) _ _ _ Ho.out Hbr.out

theorem impl_HydraOf (ao : Option Addr) (len cap : Nat) (xs : List Int) (w : World) (h : Sl w ao len cap xs) :
    Calls Try.prog 18 #[.slice ao len cap] w (OrdOkPost w (T.hydRow xs) (T.hydRowOk xs)) := by
  rcases vld_tf xs with h1 | h1
  · have h2 := h
    obtain ⟨b, off, t, rfl, rfl, hs, hos, hat, hn, hl, hp, hc, hm⟩ := h2.valid h1
    have hnf : t.Nf := by
      obtain ⟨_, t', he, hn'⟩ := T.vldB_true.1 h1
      rw [T.enc_inj' he]; exact hn'
    rw [T.hydRow, if_pos h1, T.hydRowOk, h1, hos, Bool.true_and]
    exact impl_hydraOf (t.body.length + 1) b off len cap t w (by omega) hn (by omega) hc hm hat hnf
  · have k1 := Lib.hid (impl_valid ao len cap xs w h h1)
    rw [T.hydRow, if_neg (by rw [h1]; simp), T.hydRowOk, h1, Bool.false_and]
    clear h h1
    go_enter Try.func18, Try.ntmps18
    go_wp2_with fail
    refine (k1.out).mono ?_
    rintro ee w1 ⟨rfl, hb1⟩
    have Hb1 := Lib.hid hb1
    clear hb1
    go_wp2_with fail
    go_ret2
    exact OrdOkPost.nil (nil_own w w1) Hb1.out

end Go.Proofs.Ytlbaelehmoidpaa

/- HydG -/
/- Rows of trees that lie in rows of their own. -/
namespace Go.Proofs.Ytlbaelehmoidpaa
set_option maxRecDepth 100000
open Go.RowKit

/-- Trees, each in a row of its own behind a place. -/
def HG (w : World) (B : Nat) : H → List Value → Prop
  | .z, es => es = []
  | .c k r, es => ∃ b cap es', es = .slice (some ⟨b, 0, none⟩) k.enc.length cap :: es' ∧ w.ownsRow B 3 1 (.slice (some ⟨b, 0, none⟩) k.enc.length cap) k.enc.length (ints k.enc) ∧ HG w B r es'

theorem HG.hc {w : World} {B : Nat} {t : H} {es : List Value} (h : HG w B t es) : HC w t es := by
  induction t generalizing es with
  | z => exact h
  | c k r _ ih =>
    obtain ⟨b, cap, es', rfl, h1, h2⟩ := h
    obtain ⟨q1, q2, q3, q4⟩ := Sl.of_own h1
    obtain ⟨b', off, q5, q6⟩ := q4 (by rw [H.enc_len]; omega)
    cases q5
    exact ⟨b, 0, cap, es', rfl, q6, q2, q3, ih h2⟩

theorem HG.snoc {w : World} {B : Nat} {t : H} {es : List Value} {e : H} {b cap : Nat} (h : HG w B t es) (ha : w.ownsRow B 3 1 (.slice (some ⟨b, 0, none⟩) e.enc.length cap) e.enc.length (ints e.enc)) :
    HG w B (t.app (.c e .z)) (es ++ [.slice (some ⟨b, 0, none⟩) e.enc.length cap]) := by
  induction t generalizing es with
  | z => simp only [HG] at h; subst h; exact ⟨b, cap, [], rfl, ha, rfl⟩
  | c f r _ ih =>
    obtain ⟨b', cap', es', rfl, h1, h2⟩ := h
    exact ⟨b', cap', _, rfl, h1, ih h2⟩

/-- They stay behind whatever leaves their rows alone. -/
theorem HG.kept {w w' : World} {B : Nat} {row : Option Nat} {t : H} {es : List Value} (h : HG w B t es) (hg : w.grownBy w' row) (hr : ∀ k, row = some k → k < B ∨ ∃ cs fr, w.heap[k]? = some (.cells cs 23 fr)) : HG w' B t es := by
  induction t generalizing es with
  | z => exact h
  | c f r _ ih =>
    obtain ⟨b, cap, es', rfl, h1, h2⟩ := h
    refine ⟨b, cap, es', rfl, h1.kept hg (.inr fun he => ?_), ih h2⟩
    have hb := h1.lt b rfl
    rcases hr b (by rw [← he]; rfl) with h3 | ⟨cs, fr, h3⟩
    · omega
    · rcases h1.2 with ⟨h4, _⟩ | ⟨g, c, cur, h4, _, h5, _⟩
      · cases h4
      · simp only [Value.slice.injEq, Option.some.injEq, Addr.mk.injEq] at h4
        obtain ⟨⟨rfl, _⟩, _⟩ := h4
        rw [h3] at h5
        simp at h5

theorem own_tag {w : World} {B e n size : Nat} {v : Value} {xs : List Value} (h : w.ownsRow B e size v n xs) : ∀ k, v.ownBlock = some k → ∃ cs fr, w.heap[k]? = some (.cells cs e fr) := by
  intro k hk
  rcases h.2 with ⟨rfl, _⟩ | ⟨g, cap, cur, rfl, _, hg, _⟩
  · simp [Value.ownBlock] at hk
  · simp [Value.ownBlock] at hk
    subst hk
    exact ⟨_, _, hg⟩

end Go.Proofs.Ytlbaelehmoidpaa

/- HydQ -/
/- HydraOf, the model's. -/
namespace Go.Proofs.Ytlbaelehmoidpaa
set_option maxRecDepth 100000
open Go.RowKit

/-- How things stand behind the terms d, with so many branches of the next one. -/
def QRel (w : World) (t d e : T) (j lg n : Nat) (a5 : Option Addr) (c5 : Nat) (wr : World) : Prop :=
  lg ≤ 200 ∧ n ≤ lg ∧ ((60 < lg ∧ T.hydOk t = false) ∨ ∃ (f : H) (es : List Value), n = f.cnt ∧ wr.ownsRow w.heap.size 23 1 (.slice a5 n c5) n es ∧ HG wr w.heap.size f es ∧
    f = (T.hyd d).app (H.rep j (T.hyd e) .z) ∧ lg = f.enc.length)

theorem QRel.fin {w : World} {t : T} {lg n : Nat} {a5 : Option Addr} {c5 : Nat} {wr : World} (h : QRel w t t .z 0 lg n a5 c5 wr) :
    (60 < lg ∧ T.hydOk t = false) ∨ (lg ≤ 60 ∧ T.hydOk t = true ∧ Hs wr a5 n (T.hyd t)) := by
  obtain ⟨hl2, hnl, h1⟩ := h
  rcases h1 with h1 | ⟨f, es, hn, ho, hG, h1, h3⟩
  · exact .inl h1
  · simp only [H.rep, H.app_z] at h1
    subst h1
    by_cases h60 : lg ≤ 60
    · exact .inr ⟨h60, T.hydOk_true.2 (by omega), Hs.of_own ho hG.hc hn⟩
    · exact .inl ⟨by omega, T.hydOk_false.2 (by omega)⟩

/-- A term is done. -/
theorem QRel.next {w : World} {t d e r : T} {xn j lg n : Nat} {a5 : Option Addr} {c5 : Nat} {wr : World} (h : QRel w t d e j lg n a5 c5 wr) (h1 : d.app (.c xn e r) = t) (hj : j ≤ xn) (hx : j = xn ∨ 60 < lg) :
    QRel w t (d.app (.c xn e .z)) .z 0 lg n a5 c5 wr := by
  obtain ⟨hl2, hnl, h4⟩ := h
  refine ⟨hl2, hnl, ?_⟩
  rcases h4 with h4 | ⟨f, es, hn, ho, hG, h4, h5⟩
  · exact .inl h4
  · by_cases hjx : j = xn
    · right
      subst hjx
      refine ⟨f, es, hn, ho, hG, ?_, h5⟩
      rw [T.hyd_snoc]
      simp only [H.rep, H.app_z]
      exact h4
    · left
      have h6 : 60 < lg := by omega
      refine ⟨h6, T.hydOk_false.2 ?_⟩
      have h7 := T.hyd_part h1
      have h8 : lg = (T.hyd d).enc.length + (T.hyd e).enc.length * j := by
        rw [h5, h4, H.enc_len, H.app_body, H.rep_body, H.enc_len]
        simp [Rp_len, H.body]
        omega
      have h9 : (T.hyd e).enc.length * j ≤ (T.hyd e).enc.length * xn := Nat.mul_le_mul (Nat.le_refl _) hj
      have h10 : ((xn : Nat) : Int).toNat = xn := rfl
      rw [h10] at h7
      omega

/-- A branch more. -/
theorem QRel.more {w : World} {t d e : T} {j lg n c5 c6 c8 g8 : Nat} {a5 a6 : Option Addr} {wr w3 : World} (h : QRel w t d e j lg n a5 c5 wr) (hk : T.hydOk e = true) (h60 : lg ≤ 60) {o : Obj} {wa : World}
    (hga : wr.grownBy wa none) (hg3 : (wa.alloc o).grownBy w3 (Value.ownBlock (.slice a5 n c5)))
    (h8 : w3.ownsRow w.heap.size 3 1 (.slice (some ⟨g8, 0, none⟩) (T.hyd e).enc.length c8) (T.hyd e).enc.length (ints (T.hyd e).enc))
    (ho3 : ∀ es, wr.ownsRow w.heap.size 23 1 (.slice a5 n c5) n es → w3.ownsRow w.heap.size 23 1 (.slice a6 (n + 1) c6) (n + 1) (es ++ [.slice (some ⟨g8, 0, none⟩) (T.hyd e).enc.length c8])) :
    QRel w t d e (j + 1) (lg + (T.hyd e).enc.length) (n + 1) a6 c6 w3 := by
  obtain ⟨hl2, hnl, h4⟩ := h
  have hL := T.hydOk_true.1 hk
  have hp := T.hyd_len_pos e
  have hgB : wa.grownBy (wa.alloc o) none := World.grownBy_alloc wa o none
  refine ⟨by omega, by omega, ?_⟩
  rcases h4 with h4 | ⟨f, es, hn, ho, hG, h4, h5⟩
  · exact .inl ⟨by omega, h4.2⟩
  · have hoA := (ho.kept hga (by cases hv : Value.ownBlock (.slice a5 n c5) <;> simp)).alloc o
    have hG3 := ((hG.kept hga (fun k hk => by cases hk)).kept hgB (fun k hk => by cases hk)).kept hg3 (fun k hk => .inr (own_tag hoA k hk))
    refine .inr ⟨f.app (.c (T.hyd e) .z), _, by rw [H.app_cnt, hn]; rfl, ho3 es ho, hG3.snoc h8, ?_, ?_⟩
    · rw [h4, H.app_assoc, H.rep_app]
      congr 1
      exact H.rep_snoc _ _ _
    · rw [h5, H.enc_len, H.enc_len (f.app _), H.app_body, H.body_c]
      simp [H.body]
      omega

/-- A branch that is too long. -/
theorem QRel.over {w : World} {t d e : T} {j lg n c5 c6 : Nat} {a5 a6 : Option Addr} {wr w3 : World} (h : QRel w t d e j lg n a5 c5 wr) (hk : T.hydOk t = false) (h60 : lg ≤ 60) (hlp : 1 ≤ lg) : QRel w t d e (j + 1) (lg + 60) (n + 1) a6 c6 w3 := by
  obtain ⟨hl2, hnl, _⟩ := h
  exact ⟨by omega, by omega, .inl ⟨by omega, hk⟩⟩

/-- What is there while branches are put behind. -/
theorem QRel.own {w : World} {t d e : T} {j lg n c5 : Nat} {a5 : Option Addr} {wr : World} (h : QRel w t d e j lg n a5 c5 wr) (h60 : lg ≤ 60) : ∃ es, wr.ownsRow w.heap.size 23 1 (.slice a5 n c5) n es := by
  obtain ⟨_, _, h4⟩ := h
  rcases h4 with h4 | ⟨f, es, hn, ho, _⟩
  · omega
  · exact ⟨es, ho⟩

theorem QRel.start {w : World} {t d e : T} {lg n c5 : Nat} {a5 : Option Addr} {wr w2 : World} (h : QRel w t d .z 0 lg n a5 c5 wr) (hb : Below wr.heap.size wr w2) : QRel w t d e 0 lg n a5 c5 w2 := by
  obtain ⟨hl2, hnl, h4⟩ := h
  refine ⟨hl2, hnl, ?_⟩
  rcases h4 with h4 | ⟨f, es, hn, ho, hG, h4, h5⟩
  · exact .inl h4
  · exact .inr ⟨f, es, hn, ownsRow_below' ho hb, hG.kept (row := none) ⟨hb.os, hb.tape, hb.output, hb.size, fun k hk _ => hb.block k hk⟩ (fun k hk => by cases hk), h4, h5⟩

theorem own_same {w : World} {B e n size : Nat} {v : Value} {xs ys : List Value} (h : w.ownsRow B e size v n xs) (h' : w.ownsRow B e size v n ys) : xs = ys := by
  rcases h.2 with ⟨h1, h2⟩ | ⟨g, cap, cur, h1, h2, h3, h4, h5, h6, h7⟩
  · have e1 := h.1
    have e2 := h'.1
    rw [h2, Nat.zero_mul] at e1 e2
    rw [List.eq_nil_of_length_eq_zero e1, List.eq_nil_of_length_eq_zero e2]
  · rcases h'.2 with ⟨k1, _⟩ | ⟨g', cap', cur', k1, k2, k3, k4, k5, k6, k7⟩
    · rw [h1] at k1; cases k1
    · rw [h1] at k1
      simp only [Value.slice.injEq, Option.some.injEq, Addr.mk.injEq] at k1
      obtain ⟨⟨rfl, _⟩, _⟩ := k1
      rw [h3] at k3
      simp only [Option.some.injEq, Obj.cells.injEq] at k3
      rw [← h7, ← k7, k3.1]

def QIn (w : World) (t d e : T) (xn g8 L c8 : Nat) (v5 v6 v9 : Value) (wi : World) : Prop :=
  ∃ (j lg n : Nat) (a5 : Option Addr) (c5 : Nat), j ≤ xn ∧ v9 = .int .i64 j ∧ v6 = .int .i64 lg ∧ v5 = .slice a5 n c5 ∧ 1 ≤ lg ∧ lg ≤ 200 ∧ n ≤ lg ∧ QRel w t d e j lg n a5 c5 wi ∧
    wi.ownsRow w.heap.size 3 1 (.slice (some ⟨g8, 0, none⟩) L c8) L (ints (T.hyd e).enc) ∧ Below w.heap.size w wi

def QNil (w : World) (t d e : T) (xn : Nat) (v5 v6 v9 : Value) (wi : World) : Prop :=
  ∃ (j lg n : Nat) (a5 : Option Addr) (c5 : Nat), j ≤ xn ∧ v9 = .int .i64 j ∧ v6 = .int .i64 lg ∧ v5 = .slice a5 n c5 ∧ 1 ≤ lg ∧ lg ≤ 200 ∧ n ≤ lg ∧ QRel w t d e j lg n a5 c5 wi ∧ Below w.heap.size w wi

def QOut (w : World) (t : T) (cn : Nat) (v5 v6 v7 : Value) (wr : World) : Prop :=
  ∃ (i lg n : Nat) (a5 : Option Addr) (c5 : Nat) (d u : T), i ≤ cn ∧ Hid (d.app u = t ∧ d.cnt = i ∧ i + u.cnt = cn) ∧ v7 = .int .i64 i ∧ v6 = .int .i64 lg ∧ v5 = .slice a5 n c5 ∧ 1 ≤ lg ∧ lg ≤ 200 ∧ n ≤ lg ∧ QRel w t d .z 0 lg n a5 c5 wr ∧ Below w.heap.size w wr

set_option maxHeartbeats 4000000 in
theorem l5Of_any (N : Nat) : ∀ (b off n cap : Nat) (t : T) (w : World), t.body.length < N → n = t.enc.length → n ≤ 60 → n ≤ cap → cap ≤ maxLen → At w b off t.enc → t.Nf →
    Calls Try.prog 42 #[.slice (some ⟨b, off, none⟩) n cap] w (RowPost w (T.hydFit t)) := by
  induction N with
  | zero => intro b off n cap t w h; omega
  | succ N ih =>
    intro b off n cap t w hN hn hb hc hm hat hnf
    obtain ⟨j0, hj, hy0, hy1, hy2⟩ := info_parts info_ints
    have IH := Lib.hid ih
    have HA := Lib.hid hat
    have Hn := Lib.hid hn
    have HN := Lib.hid hN
    have HF := Lib.hid hnf
    have hbl : b < w.heap.size := hat.lt (T.enc_ne t)
    have hct := T.cnt_le t
    have hel := T.enc_len t
    obtain ⟨rf, hrf⟩ : ∃ rf, rf = T.hydFit t := ⟨_, rfl⟩
    rw [← hrf]
    have Hrf := Lib.hid hrf
    have kt := Lib.hid (l1Terms_some b off n cap t.enc t w hn.symm (by omega) hc hm hat rfl)
    clear ih hN hn hat hnf hrf
    go_enter Try.func42, Try.ntmps42
    go_wp2_with fail
    refine (kt.out).mono ?_
    rintro ee w1 ⟨g1, q1, g2, q2, es, rfl, ho1, ho2, hE, hb1⟩
    obtain ⟨cn, hcn⟩ : ∃ cn, cn = t.cnt := ⟨_, rfl⟩
    rw [← hcn] at ho1 ho2 ⊢
    have hcb : cn ≤ 60 := by have := Hn.out; omega
    have hl1 : g1 < w1.heap.size := (ho1.lt g1 rfl).2
    have hl2 : g2 < w1.heap.size := (ho2.lt g2 rfl).2
    have hst : ∀ c5, c5 = 0 → QOut w1 t cn (.slice (some ⟨w1.heap.size, 0, none⟩) 0 c5) (.int .i64 ((1 : Nat) : Int)) (.int .i64 ((0 : Nat) : Int)) (w1.alloc (.cells #[] 23)) := by
      intro c5 h5
      subst h5
      exact ⟨0, 1, 0, _, _, .z, t, Nat.zero_le _, ⟨rfl, rfl, by omega⟩, rfl, rfl, rfl, by omega, by omega, by omega, ⟨by omega, by omega, .inr ⟨.z, [], rfl, World.ownsRow_lit w1 #[] 0 (Nat.le_refl _) (by simp [maxLen]) rfl, rfl, rfl, rfl⟩⟩, (Below.refl _ _).alloc (Nat.le_refl _) _⟩
    have Hst := Lib.hid (hst 0 rfl)
    have Hcn := Lib.hid hcn
    have Hb1 := Lib.hid hb1
    have Ho1 := Lib.hid ho1
    have Ho2 := Lib.hid ho2
    have HE := Lib.hid hE
    clear hcn hb1 ho1 ho2 hE hst
    go_wp2_with fail
    go_loopw [5, 6, 7] (fun v5 v6 v7 wr => QOut w1 t cn v5 v6 v7 wr) (fun _ _ i _ => cn - (intOf i).toNat)
    case atStart => exact Hst.out
    case round =>
      obtain ⟨i, lg, n5, a5, c5, d, u, hi1, HU, rfl, rfl, rfl, hlg1, hlg2, hn5, hq, hbr⟩ := hrel
      obtain ⟨h1, h2, h3⟩ := HU.out
      have hsr := hbr.size
      by_cases hlt : i < cn
      · obtain ⟨x, e, r, rfl⟩ : ∃ x e r, u = .c x e r := T.cnt_pos (by omega)
        obtain ⟨hx1, hx2, hne⟩ := T.part_nf h1 HF.out
        obtain ⟨xn, rfl⟩ := Int.eq_ofNat_of_zero_le (show 0 ≤ x by omega)
        obtain ⟨be, oe, ce, p2, p3, p4, p5⟩ := HE.out.pick h1 h2
        have x1 : wr.cell? ⟨g1, i, none⟩ = some (.int .i64 xn) := (hbr.cell (p := ⟨g1, i, none⟩) hl1).trans ((Ho1.out.cellAt i (by omega)).trans (by rw [List.getElem?_map, T.times_pick h1 h2]; rfl))
        have x2 : wr.cell? ⟨g2, i, none⟩ = some (.slice (some ⟨be, oe, none⟩) e.enc.length ce) := (hbr.cell (p := ⟨g2, i, none⟩) hl2).trans ((Ho2.out.cellAt i (by omega)).trans p2)
        have hpl := T.part_len h1
        have hpart := T.hyd_part h1
        have hbad : T.hydOk e = false → T.hydOk t = false := fun h => T.hyd_bad h1 (by omega) h
        have hbe : be < w1.heap.size := Nat.lt_of_lt_of_le (p3.lt (T.enc_ne e)) Hb1.out.size
        have hatr : At wr be oe e.enc := (p3.below Hb1.out (p3.lt (T.enc_ne e))).below hbr hbe
        have kt2 := Lib.hid (IH.out be oe e.enc.length ce e wr (by have := HN.out; omega) rfl (by have := Hn.out; omega) p4 p5 hatr hne)
        unfold RowPost at kt2
        have Hbr := Lib.hid hbr
        have Hq := Lib.hid hq
        have Hpart := Lib.hid hpart
        have Hbad := Lib.hid hbad
        have hd1 : ((xn : Nat) : Int) = xn := rfl
        have H1 := Lib.hid h1
        have H2 := Lib.hid h2
        have H3 := Lib.hid h3
        rcases T.hydOk_tf e with hk | hk
        · rw [T.hydFit_yes hk] at kt2
          have hL1 := T.hyd_len_pos e
          have hL60 := T.hydOk_true.1 hk
          obtain ⟨L, hL⟩ : ∃ L, L = (T.hyd e).enc.length := ⟨_, rfl⟩
          rw [← hL] at kt2 hL1 hL60
          have HL := Lib.hid hL
          have Hk := Lib.hid hk
          clear h1 h2 h3 p2 p3 p4 p5 hatr hbr hq hpl hpart hbad hL hk hd1
          go_wp2_with fail
          refine (kt2.out).mono ?_
          rintro ee w2 ⟨a8, c8, rfl, ho8, hb2⟩
          have Hq2 := Lib.hid (Hq.out.start (e := e) hb2)
          have Ho8 := Lib.hid (Joins.ownsRow_le ho8 Hbr.out.size)
          have Hb2 := Lib.hid (Hbr.out.trans (hb2.mono Hbr.out.size))
          obtain ⟨g8, c8', hv⟩ := Joins.ownsRow_form ho8 (by omega)
          simp only [Value.slice.injEq, true_and] at hv
          obtain ⟨rfl, rfl⟩ := hv
          clear ho8 hb2
          go_wp2_with fail
          go_loopw [5, 6, 9] (fun v5 v6 v9 wi => QIn w1 t d e xn g8 L c8 v5 v6 v9 wi) (fun _ _ v9 _ => xn - (intOf v9).toNat)
          case atStart => exact ⟨0, lg, n5, a5, c5, Nat.zero_le _, rfl, rfl, rfl, hlg1, hlg2, hn5, Hq2.out, Ho8.out, Hb2.out⟩
          case round =>
            obtain ⟨j, lg, n5, a5, c5, hjx, rfl, rfl, rfl, hlg1, hlg2, hn5, hqi, ho8, hbi⟩ := hrel
            have Hqi := Lib.hid hqi
            have Hbi := Lib.hid hbi
            have Ho8i := Lib.hid ho8
            have x1i : wr.cell? ⟨g1, i, none⟩ = some (.int .i64 xn) := (hbi.cell (p := ⟨g1, i, none⟩) hl1).trans ((Ho1.out.cellAt i (by omega)).trans (by rw [List.getElem?_map, T.times_pick H1.out H2.out]; rfl))
            by_cases hjl : j < xn ∧ lg ≤ 60
            · obtain ⟨hj1, hj2⟩ := hjl
              obtain ⟨es5, hos⟩ := hqi.own hj2
              have Hos := Lib.hid hos
              have hs1 := hbi.size
              have hL12 : L = 1 ∨ 2 ≤ L := by omega
              clear hqi hbi ho8 hos
              rcases hL12 with hL2 | hL2
              · subst hL2
                go_wp2_with (first
                  | (at_builtin; refine wpList_append_own _ rfl (.tmp 39) (.tmp 41) 71 rfl w1.heap.size 23 j0 (.slice none 0 0) 1 24 Try.underlying71 hj hy0 hy1 hy2 rfl (by decide) _ _ _ rfl (Hos.out.alloc _) ⟨wr.heap.size, 0, none⟩ 1 1 [.slice (some ⟨g8, 0, none⟩) 1 c8] rfl rfl (cell_one_new _ _ _) (slice_oneCell _ _ _) (by unfold maxLen; omega) (by omega) (by simp; omega) ?_; intro v2' w3 ho3 hg3 _))
                obtain ⟨a6, c6, rfl, _⟩ := own_form ho3
                have h83 := (Ho8i.out.alloc (.cells #[.slice (some ⟨g8, 0, none⟩) 1 c8] 23)).kept hg3 (own_ne Ho8i.out Hos.out (by decide))
                have hfin : QIn w1 t d e xn g8 1 c8 (.slice a6 (n5 + 1) c6) (.int .i64 ((lg + 1 : Nat) : Int)) (.int .i64 ((j + 1 : Nat) : Int)) w3 := by
                  refine ⟨j + 1, lg + 1, n5 + 1, a6, c6, by omega, rfl, rfl, rfl, by omega, by omega, by omega, ?_, h83, ((Hbi.out.alloc (by omega) _).grown hg3 (by simp; omega) (fun k hk => (Hos.out.lt k hk).1))⟩
                  have hq9 := Hqi.out.more (g8 := g8) (c8 := c8) (a6 := a6) (c6 := c6) Hk.out hj2 (World.grownBy.refl wr none) hg3 (by rw [← HL.out]; exact h83) (fun es hes => by
                    rw [← HL.out]
                    have he := own_same hes Hos.out
                    rw [he]
                    exact ho3)
                  rw [← HL.out] at hq9
                  exact hq9
                have Hfin := Lib.hid hfin
                clear ho3 hg3 h83 hfin
                go_wp2_with fail
                go_roundw
                case rel => exact Hfin.out
                case measure => simp [intOf]; omega
              · have hLm : ¬ (L : Int) ≤ 1 := by omega
                have hL0 : ¬ (L : Int) ≤ 0 := by omega
                go_wp2_with (first
                  | (at_builtin; refine wpList_append_own _ rfl (.tmp 39) (.tmp 41) 71 rfl w1.heap.size 23 j0 (.slice none 0 0) 1 24 Try.underlying71 hj hy0 hy1 hy2 rfl (by decide) _ _ _ rfl (Hos.out.alloc _) ⟨wr.heap.size, 0, none⟩ 1 1 [.slice (some ⟨g8, 0, none⟩) L c8] rfl rfl (cell_one_new _ _ _) (slice_oneCell _ _ _) (by unfold maxLen; omega) (by omega) (by simp; omega) ?_; intro v2' w3 ho3 hg3 _))
                obtain ⟨a6, c6, rfl, _⟩ := own_form ho3
                have h83 := (Ho8i.out.alloc (.cells #[.slice (some ⟨g8, 0, none⟩) L c8] 23)).kept hg3 (own_ne Ho8i.out Hos.out (by decide))
                have hfin : QIn w1 t d e xn g8 L c8 (.slice a6 (n5 + 1) c6) (.int .i64 ((lg + L : Nat) : Int)) (.int .i64 ((j + 1 : Nat) : Int)) w3 := by
                  refine ⟨j + 1, lg + L, n5 + 1, a6, c6, by omega, rfl, rfl, rfl, by omega, by omega, by omega, ?_, h83, ((Hbi.out.alloc (by omega) _).grown hg3 (by simp; omega) (fun k hk => (Hos.out.lt k hk).1))⟩
                  have hq9 := Hqi.out.more (g8 := g8) (c8 := c8) (a6 := a6) (c6 := c6) Hk.out hj2 (World.grownBy.refl wr none) hg3 (by rw [← HL.out]; exact h83) (fun es hes => by
                    rw [← HL.out]
                    have he := own_same hes Hos.out
                    rw [he]
                    exact ho3)
                  rw [← HL.out] at hq9
                  exact hq9
                have Hfin := Lib.hid hfin
                clear ho3 hg3 h83 hfin
                go_wp2_with fail
                go_roundw
                case rel =>
                  have e1 : (lg : Int) + max (L : Int) (60 * (1 - min (L : Int) 1)) = ((lg + L : Nat) : Int) := by omega
                  first
                    | exact Hfin.out
                    | (rw [e1]; exact Hfin.out)
                case measure => simp [intOf]; omega
            · have hqn := hqi.next (r := r) H1.out hjx (by omega)
              have HQn := Lib.hid hqn
              have hd60 : ¬ (j < xn ∧ lg ≤ 60) := hjl
              clear hqi ho8 hqn
              by_cases hj1 : j < xn
              · have hl60 : ¬ (lg : Int) ≤ 60 := by omega
                have hsr2 := hbi.size
                clear hbi
                go_wp2_with fail
                go_roundw
                case rel => exact ⟨i + 1, lg, n5, a5, c5, d.app (.c xn e .z), r, by omega, ⟨by rw [T.app_assoc]; exact H1.out, by rw [T.app_cnt, H2.out]; rfl, by have := H3.out; simp only [T.cnt] at this; omega⟩, by go_num, rfl, rfl, hlg1, hlg2, hn5, HQn.out, Hbi.out⟩
                case measure => simp [intOf]; omega
              · have hj1' : ¬ (j : Int) < (xn : Int) := by omega
                clear hbi
                go_wp2_with fail
                go_roundw
                case rel => exact ⟨i + 1, lg, n5, a5, c5, d.app (.c xn e .z), r, by omega, ⟨by rw [T.app_assoc]; exact H1.out, by rw [T.app_cnt, H2.out]; rfl, by have := H3.out; simp only [T.cnt] at this; omega⟩, by go_num, rfl, rfl, hlg1, hlg2, hn5, HQn.out, Hbi.out⟩
                case measure => simp [intOf]; omega
        · rw [T.hydFit_no hk] at kt2
          simp only [List.length_nil] at kt2
          have Hts := Lib.hid (hbad hk)
          clear h1 h2 h3 p2 p3 p4 p5 hatr hbr hq hpl hpart hbad hk hd1
          go_wp2_with fail
          refine (kt2.out).mono ?_
          rintro ee w2 ⟨a8, c8, rfl, ho8, hb2⟩
          have Hq2 := Lib.hid (Hq.out.start (e := e) hb2)
          have Hb2 := Lib.hid (Hbr.out.trans (hb2.mono Hbr.out.size))
          clear ho8 hb2
          go_wp2_with fail
          go_loopw [5, 6, 9] (fun v5 v6 v9 wi => QNil w1 t d e xn v5 v6 v9 wi) (fun _ _ v9 _ => xn - (intOf v9).toNat)
          case atStart => exact ⟨0, lg, n5, a5, c5, Nat.zero_le _, rfl, rfl, rfl, hlg1, hlg2, hn5, Hq2.out, Hb2.out⟩
          case round =>
            obtain ⟨j, lg, n5, a5, c5, hjx, rfl, rfl, rfl, hlg1, hlg2, hn5, hqi, hbi⟩ := hrel
            have Hqi := Lib.hid hqi
            have Hbi := Lib.hid hbi
            have x1i : wr.cell? ⟨g1, i, none⟩ = some (.int .i64 xn) := (hbi.cell (p := ⟨g1, i, none⟩) hl1).trans ((Ho1.out.cellAt i (by omega)).trans (by rw [List.getElem?_map, T.times_pick H1.out H2.out]; rfl))
            by_cases hjl : j < xn ∧ lg ≤ 60
            · obtain ⟨hj1, hj2⟩ := hjl
              obtain ⟨es5, hos⟩ := hqi.own hj2
              have Hos := Lib.hid hos
              have hs1 := hbi.size
              clear hqi hbi hos
              go_wp2_with (first
                | (at_builtin; refine wpList_append_own _ rfl (.tmp 39) (.tmp 41) 71 rfl w1.heap.size 23 j0 (.slice none 0 0) 1 24 Try.underlying71 hj hy0 hy1 hy2 rfl (by decide) _ _ _ rfl (Hos.out.alloc _) ⟨wr.heap.size, 0, none⟩ 1 1 [.slice a8 0 c8] rfl rfl (cell_one_new _ _ _) (slice_oneCell _ _ _) (by unfold maxLen; omega) (by omega) (by simp; omega) ?_; intro v2' w3 ho3 hg3 _))
              obtain ⟨a6, c6, rfl, _⟩ := own_form ho3
              have hfin : QNil w1 t d e xn (.slice a6 (n5 + 1) c6) (.int .i64 ((lg + 60 : Nat) : Int)) (.int .i64 ((j + 1 : Nat) : Int)) w3 :=
                ⟨j + 1, lg + 60, n5 + 1, a6, c6, by omega, rfl, rfl, rfl, by omega, by omega, by omega, Hqi.out.over Hts.out hj2 hlg1, ((Hbi.out.alloc (by omega) _).grown hg3 (by simp; omega) (fun k hk => (Hos.out.lt k hk).1))⟩
              have Hfin := Lib.hid hfin
              clear ho3 hg3 hfin
              go_wp2_with fail
              go_roundw
              case rel => exact Hfin.out
              case measure => simp [intOf]; omega
            · have hqn := hqi.next (r := r) H1.out hjx (by omega)
              have HQn := Lib.hid hqn
              have hd60 : ¬ (j < xn ∧ lg ≤ 60) := hjl
              clear hqi hqn
              by_cases hj1 : j < xn
              · have hl60 : ¬ (lg : Int) ≤ 60 := by omega
                clear hbi
                go_wp2_with fail
                go_roundw
                case rel => exact ⟨i + 1, lg, n5, a5, c5, d.app (.c xn e .z), r, by omega, ⟨by rw [T.app_assoc]; exact H1.out, by rw [T.app_cnt, H2.out]; rfl, by have := H3.out; simp only [T.cnt] at this; omega⟩, by go_num, rfl, rfl, hlg1, hlg2, hn5, HQn.out, Hbi.out⟩
                case measure => simp [intOf]; omega
              · have hj1' : ¬ (j : Int) < (xn : Int) := by omega
                clear hbi
                go_wp2_with fail
                go_roundw
                case rel => exact ⟨i + 1, lg, n5, a5, c5, d.app (.c xn e .z), r, by omega, ⟨by rw [T.app_assoc]; exact H1.out, by rw [T.app_cnt, H2.out]; rfl, by have := H3.out; simp only [T.cnt] at this; omega⟩, by go_num, rfl, rfl, hlg1, hlg2, hn5, HQn.out, Hbi.out⟩
                case measure => simp [intOf]; omega
      · have hu : u = .z := T.cnt_zero (by omega)
        subst hu
        have hdt : d = t := by rw [T.app_z] at h1; exact h1
        subst hdt
        have hb := Hb1.out.trans (hbr.mono Hb1.out.size)
        have Hb := Lib.hid hb
        rcases hq.fin with ⟨hf1, hf2⟩ | ⟨hf1, hf2, hf3⟩
        · have hp : RowPost w rf (.returned (.slice (some ⟨wr.heap.size, 0, none⟩) 0 0)) (wr.alloc (.cells #[] 3)) := by
            rw [Hrf.out, T.hydFit_no hf2]
            exact ⟨_, 0, rfl, World.ownsRow_lit wr #[] 0 hb.size (by simp [maxLen]) rfl, hb.alloc hb.size _⟩
          have Hp := Lib.hid hp
          clear h1 h2 h3 hq hbr hf2 hp hb
          go_wp2_with fail
          go_ret
          exact Hp.out
        · have k5 := Lib.hid (l5Tree_any a5 n5 c5 (T.hyd d) wr (by have := T.hydOk_true.1 hf2; omega) hf3)
          have hl6 : ¬ (60 : Int) < (lg : Int) := by omega
          have Hf2 := Lib.hid hf2
          clear h1 h2 h3 hq hbr hf2 hf3 hb
          go_wp2_with fail
          refine (k5.out).mono ?_
          rintro ee w5 ⟨a9, c9, rfl, ho9, hb9⟩
          have hp : RowPost w rf (.returned (.slice a9 (T.hyd d).enc.length c9)) w5 := by
            rw [Hrf.out, T.hydFit_yes Hf2.out]
            exact ⟨a9, c9, rfl, Joins.ownsRow_le ho9 Hb.out.size, Hb.out.trans (hb9.mono Hb.out.size)⟩
          have Hp := Lib.hid hp
          clear ho9 hb9 hp
          go_wp2_with fail
          go_ret
          exact Hp.out

theorem spec_HydraOf (ao : Option Addr) (len cap : Nat) (xs : List Int) (w : World) (h : Sl w ao len cap xs) :
    Calls Try.prog 19 #[.slice ao len cap] w (OrdOkPost w (T.hydRow xs) (T.hydRowOk xs)) := by
  rcases vld_tf xs with h1 | h1
  · have h2 := h
    obtain ⟨b, off, t, rfl, rfl, hs, hos, hat, hn, hl, hp, hc, hm⟩ := h2.valid h1
    have hnf : t.Nf := by
      obtain ⟨_, t', he, hn'⟩ := T.vldB_true.1 h1
      rw [T.enc_inj' he]; exact hn'
    have k1 := Lib.hid (spec_valid (some ⟨b, off, none⟩) len cap t.enc w h h1)
    have kk := fun w' (hb : Below w.heap.size w w') => l5Of_any (t.body.length + 1) b off len cap t w' (by omega) hn (by omega) hc hm (hat.below hb (hat.lt (T.enc_ne t))) hnf
    have KK := Lib.hid kk
    rcases T.hydOk_tf t with hk | hk
    · rw [T.hydRow, if_pos h1, T.hydRowOk, h1, hos, Bool.true_and, hk, T.hydFit_yes hk]
      unfold RowPost at KK
      rw [T.hydFit_yes hk] at KK
      have hp1 := T.hyd_len_pos t
      have hz : (((T.hyd t).enc.length : Int) == 0) = false := beq_eq_false_iff_ne.2 (by omega)
      obtain ⟨r, hr⟩ : ∃ r, r = (T.hyd t).enc := ⟨_, rfl⟩
      rw [← hr] at KK hz ⊢
      clear h h1 hs hos hat hn hnf kk hk hp1 hr
      go_enter Try.func19, Try.ntmps19
      go_wp2_with fail
      refine (k1.out).mono ?_
      rintro ee w1 ⟨rfl, hb1⟩
      have Hb1 := Lib.hid hb1
      clear hb1
      go_wp2_with fail
      refine (KK.out w1 Hb1.out).mono ?_
      rintro ee w2 ⟨a2, c2, rfl, _, hb2⟩
      have Hb2 := Lib.hid (Hb1.out.trans (hb2.mono Hb1.out.size))
      clear hb2
      go_wp2_with fail
      refine (KK.out w2 Hb2.out).mono ?_
      rintro ee w3 ⟨a3, c3, rfl, ho3, hb3⟩
      have Ho3 := Lib.hid (Joins.ownsRow_le ho3 Hb2.out.size)
      have Hb3 := Lib.hid (Hb2.out.trans (hb3.mono Hb2.out.size))
      clear ho3 hb3
      go_wp2_with fail
      go_ret2
      exact ⟨a3, c3, rfl, Ho3.out, Hb3.out⟩
    · rw [T.hydRow, if_pos h1, T.hydRowOk, h1, hos, Bool.true_and, hk, T.hydFit_no hk]
      unfold RowPost at KK
      rw [T.hydFit_no hk] at KK
      simp only [List.length_nil] at KK
      clear h h1 hs hos hat hn hnf kk hk
      go_enter Try.func19, Try.ntmps19
      go_wp2_with fail
      refine (k1.out).mono ?_
      rintro ee w1 ⟨rfl, hb1⟩
      have Hb1 := Lib.hid hb1
      clear hb1
      go_wp2_with fail
      refine (KK.out w1 Hb1.out).mono ?_
      rintro ee w2 ⟨a2, c2, rfl, _, hb2⟩
      have Hb2 := Lib.hid (Hb1.out.trans (hb2.mono Hb1.out.size))
      clear hb2
      go_wp2_with fail
      go_ret2
      exact lit_post Hb2.out
  · have k1 := Lib.hid (spec_valid ao len cap xs w h h1)
    rw [T.hydRow, if_neg (by rw [h1]; simp), T.hydRowOk, h1, Bool.false_and]
    clear h h1
    go_enter Try.func19, Try.ntmps19
    go_wp2_with fail
    refine (k1.out).mono ?_
    rintro ee w1 ⟨rfl, hb1⟩
    have Hb1 := Lib.hid hb1
    clear hb1
    go_wp2_with fail
    go_ret2
    exact lit_post Hb1.out

end Go.Proofs.Ytlbaelehmoidpaa

/- HydF -/
/- What the drawn laws of HydraValid and HydraHeads say, on rows. -/
namespace Go.Proofs.Ytlbaelehmoidpaa
set_option maxRecDepth 100000
namespace H

theorem hv_nil : hvB [] = false := hvB_false.2 (by rintro ⟨_, f, h⟩; simp [enc] at h)
theorem hv_snoc {xs : List Int} (x : Int) (h : hvB xs = true) : hvB (xs ++ [x]) = false := hvB_false.2 (by
  rintro ⟨_, g, hg⟩
  obtain ⟨f, rfl, _, _⟩ := hv_of h
  have := (enc_inj (s := f) (t := g) (r₁ := [x]) (r₂ := []) (by simpa using hg)).2
  cases this)
theorem hv_branch {xs : List Int} (h : hvB xs = true) (hl : xs.length ≤ 59) : hvB (1 :: xs) = true := by
  obtain ⟨f, rfl, _, _⟩ := hv_of h
  have e : (1 : Int) :: f.enc = (c f z).enc := by simp [enc, body, cnt]
  rw [e]
  exact hv_mk (by rw [← e]; simp; omega)
theorem noughts_enc (f : H) : 1 ≤ noughts f.enc := by
  induction f with
  | z => simp [enc, cnt, body, noughts]
  | c k r ihk _ =>
    have e : (c k r).enc = ((c k r).cnt : Int) :: (k.enc ++ r.body) := by rw [← body_c]; rfl
    rw [e, noughts, noughts_app]
    omega
theorem noughts_body {f : H} (h : f ≠ z) : 1 ≤ noughts f.body := by
  cases f with
  | z => exact absurd rfl h
  | c k r => rw [body_c, noughts_app]; have := noughts_enc k; omega
/-- What the law of HydraHeads says. -/
theorem heads_facts {xs : List Int} (h : hvB xs = true) : (xs.length = 1 ∧ headsRow xs = 0) ∨ (2 ≤ xs.length ∧ 1 ≤ headsRow xs ∧ headsRow xs < (xs.length : Int)) := by
  obtain ⟨f, rfl, h60, _⟩ := hv_of h
  rw [headsRow, if_pos h]
  have e : f.enc.drop 1 = f.body := rfl
  rw [e]
  cases f with
  | z => exact .inl ⟨rfl, rfl⟩
  | c k r =>
    right
    have h1 := noughts_body (f := c k r) (by intro h; cases h)
    have h2 := noughts_le (c k r).body
    have h3 := enc_len (c k r)
    omega
theorem heads_bad {xs : List Int} (h : hvB xs = false) : headsRow xs = -1 := by rw [headsRow, if_neg (by rw [h]; simp)]

end H
end Go.Proofs.Ytlbaelehmoidpaa

/- HydU -/
/- Rows of cuts: HydraRun and HydraFight, on rows. -/
namespace Go.Proofs.Ytlbaelehmoidpaa
set_option maxRecDepth 100000
open Go.RowKit
namespace H

/-- After these cuts; nothing if one of them cannot be. -/
noncomputable def runR (n : Int) : List Int → List Int → Option (List Int)
  | xs, [] => some xs
  | xs, h :: hs => if cutOkB xs h n = true then runR n (cutRow xs h n) hs else none
noncomputable def runOkB (xs hs : List Int) (n : Int) : Bool := hvB xs && decide (1 ≤ n ∧ n ≤ 9) && decide (hs.length ≤ 400) && (runR n xs hs).isSome
noncomputable def runRow (xs hs : List Int) (n : Int) : List Int := if runOkB xs hs n = true then (runR n xs hs).getD [] else []

theorem cut_hv {xs : List Int} {h n : Int} (hq : cutOkB xs h n = true) : hvB (cutRow xs h n) = true := by
  rw [cutRow, if_pos hq]
  rw [cutOkB, Bool.and_eq_true] at hq
  exact hv_mk (of_decide_eq_true hq.2)
theorem hv_len {xs : List Int} (h : hvB xs = true) : 1 ≤ xs.length ∧ xs.length ≤ 60 := by
  obtain ⟨f, rfl, h60, _⟩ := hv_of h
  exact ⟨by rw [enc_len]; omega, h60⟩
theorem run_hv {n : Int} : ∀ {hs xs ys : List Int}, hvB xs = true → runR n xs hs = some ys → hvB ys = true := by
  intro hs
  induction hs with
  | nil => intro xs ys h he; cases he; exact h
  | cons a r ih =>
    intro xs ys _ he
    rw [runR] at he
    by_cases hq : cutOkB xs a n = true
    · rw [if_pos hq] at he
      exact ih (cut_hv hq) he
    · rw [if_neg hq] at he; cases he
theorem run_app {n : Int} : ∀ (hs gs xs : List Int), runR n xs (hs ++ gs) = (runR n xs hs).bind (fun ys => runR n ys gs) := by
  intro hs
  induction hs with
  | nil => intro gs xs; rfl
  | cons a r ih =>
    intro gs xs
    rw [List.cons_append, runR, runR]
    by_cases hq : cutOkB xs a n = true
    · rw [if_pos hq, if_pos hq, ih]
    · rw [if_neg hq, if_neg hq]; rfl
theorem run_bad {xs hs : List Int} {n : Int} (h : ¬ (hvB xs = true ∧ (1 ≤ n ∧ n ≤ 9) ∧ hs.length ≤ 400)) : runOkB xs hs n = false := by
  rw [runOkB]
  by_cases h1 : hvB xs = true
  · by_cases h2 : 1 ≤ n ∧ n ≤ 9
    · rw [decide_eq_false (fun h3 => h ⟨h1, h2, h3⟩)]; simp
    · rw [decide_eq_false h2]; simp
  · have : hvB xs = false := by cases hb : hvB xs with | true => exact absurd hb h1 | false => rfl
    rw [this]; rfl
theorem run_no {xs hs : List Int} {n : Int} (h : runOkB xs hs n = false) : runRow xs hs n = [] := by rw [runRow, if_neg (by rw [h]; simp)]
theorem run_ok {xs hs : List Int} {n : Int} (h1 : hvB xs = true) (h2 : 1 ≤ n ∧ n ≤ 9) (h3 : hs.length ≤ 400) : runOkB xs hs n = (runR n xs hs).isSome := by
  rw [runOkB, h1, decide_eq_true h2, decide_eq_true h3]; rfl
theorem run_len (xs hs : List Int) (n : Int) : (runRow xs hs n).length ≤ 1000 := by
  rw [runRow]
  split
  · rename_i h
    rw [runOkB, Bool.and_eq_true, Bool.and_eq_true, Bool.and_eq_true] at h
    obtain ⟨ys, hy⟩ := Option.isSome_iff_exists.1 h.2
    rw [hy]
    have := (hv_len (run_hv h.1.1.1 hy)).2
    simp only [Option.getD_some]; omega
  · simp

/-- How many cuts kill it; c are made already. -/
noncomputable def fightI (n : Int) : Nat → Nat → List Int → Int
  | 0, _, _ => -1
  | k + 1, q, xs => if headsRow xs = 0 then q else if cutOkB xs (headsRow xs - 1) n = true then fightI n k (q + 1) (cutRow xs (headsRow xs - 1) n) else -1
noncomputable def fightRow (xs : List Int) (n : Int) : Int := if hvB xs = true ∧ 1 ≤ n ∧ n ≤ 9 then fightI n 401 0 xs else -1
theorem fight_bnd (n : Int) : ∀ k c xs, -1 ≤ fightI n k c xs ∧ fightI n k c xs ≤ c + k := by
  intro k
  induction k with
  | zero => intro c xs; simp only [fightI]; omega
  | succ k ih =>
    intro c xs
    rw [fightI]
    split
    · omega
    · split
      · have := ih (c + 1) (cutRow xs (headsRow xs - 1) n)
        omega
      · omega
theorem fightRow_bnd (xs : List Int) (n : Int) : -1 ≤ fightRow xs n ∧ fightRow xs n ≤ 401 := by
  rw [fightRow]
  split
  · have := fight_bnd n 401 0 xs; omega
  · omega
theorem heads_one {xs : List Int} (h : hvB xs = true) : headsRow xs = 0 ↔ xs.length = 1 := by
  have := heads_facts h
  omega
end H
end Go.Proofs.Ytlbaelehmoidpaa

/- Nat -/
/- Natural sums, on trees and on rows. -/
namespace Go.Proofs.Ytlbaelehmoidpaa
set_option maxRecDepth 100000
namespace T

/-- All terms of both, those with the same exponent together. -/
def nat : T → T → T
  | z, t => t
  | s, z => s
  | c n e q, c m f r => if e.cmp f = 1 then c n e (nat q (c m f r)) else if e.cmp f = -1 then c m f (nat (c n e q) r) else c (n + m) e (nat q r)
termination_by s t => s.cnt + t.cnt
decreasing_by all_goals simp [cnt] <;> omega

theorem nat_z (s : T) : nat s z = s := by cases s <;> rw [nat]; simp
theorem z_nat (t : T) : nat z t = t := by rw [nat]
theorem nat_gt {e f : T} (n m : Int) (q r : T) (h : e.cmp f = 1) : nat (c n e q) (c m f r) = c n e (nat q (c m f r)) := by rw [nat, if_pos h]
theorem nat_lt {e f : T} (n m : Int) (q r : T) (h : e.cmp f = -1) : nat (c n e q) (c m f r) = c m f (nat (c n e q) r) := by rw [nat, if_neg (by omega), if_pos h]
theorem nat_eq {e f : T} (n m : Int) (q r : T) (h : e.cmp f = 0) : nat (c n e q) (c m f r) = c (n + m) e (nat q r) := by rw [nat, if_neg (by omega), if_neg (by omega)]

theorem nat_len (s t : T) : (nat s t).body.length ≤ s.body.length + t.body.length := by
  induction s generalizing t with
  | z => rw [z_nat]; simp [body]
  | c n e q _ ih =>
    induction t with
    | z => rw [nat_z]; simp [body]
    | c m f r _ ih2 =>
      rcases cmp_vals e f with h | h | h
      · rw [nat_lt n m q r h, body_c m f, body_c m f r]
        simp
        omega
      · rw [nat_eq n m q r h, body_c, body_c n e q, body_c m f r]
        have h1 := ih r
        simp
        omega
      · rw [nat_gt n m q r h, body_c n e, body_c n e q]
        have h1 := ih (c m f r)
        simp
        omega

/-- In whatever order. -/
theorem nat_comm (s t : T) : nat s t = nat t s := by
  induction s generalizing t with
  | z => rw [z_nat, nat_z]
  | c n e q _ ih =>
    induction t with
    | z => rw [nat_z, z_nat]
    | c m f r _ ih2 =>
      have hsw := cmp_swap e f
      rcases cmp_vals e f with h | h | h
      · rw [nat_lt n m q r h, nat_gt m n r q (by omega), ih2]
      · have hef := cmp_eq h
        subst hef
        rw [nat_eq n m q r h, nat_eq m n r q h, ih r, Int.add_comm]
      · rw [nat_gt n m q r h, nat_lt m n r q (by omega), ih]

noncomputable def natRow (xs ys : List Int) : List Int := if vldB xs = true ∧ vldB ys = true then fit (nat (of xs) (of ys)) else []
noncomputable def natOk (xs ys : List Int) : Bool := vldB xs && vldB ys && vldB (nat (of xs) (of ys)).enc
theorem natRow_val {xs ys : List Int} (h1 : vldB xs = true) (h2 : vldB ys = true) : natRow xs ys = fit (nat (of xs) (of ys)) ∧ natOk xs ys = vldB (nat (of xs) (of ys)).enc :=
  ⟨by rw [natRow, if_pos ⟨h1, h2⟩], by rw [natOk, h1, h2]; rfl⟩
theorem natRow_bad {xs ys : List Int} (h : vldB xs = false ∨ vldB ys = false) : natRow xs ys = [] ∧ natOk xs ys = false := by
  constructor
  · rw [natRow, if_neg]; rintro ⟨h1, h2⟩; rcases h with h | h <;> simp [h] at h1 h2
  · rw [natOk]; rcases h with h | h <;> simp [h]
theorem natRow_len (xs ys : List Int) : (natRow xs ys).length ≤ 1000 := by
  unfold natRow
  split
  · exact fit_len _
  · simp

end T
end Go.Proofs.Ytlbaelehmoidpaa

/- HydN -/
/- Ordinals of hydras, on trees and on rows. -/
namespace Go.Proofs.Ytlbaelehmoidpaa
set_option maxRecDepth 100000
namespace T
/-- All numbers of terms together. -/
def sumN : T → Int
  | z => 0
  | c n _ r => n + r.sumN
theorem sumN_nonneg {t : T} (h : t.Nf) : 0 ≤ t.sumN := by
  induction t with
  | z => exact Int.le_refl 0
  | c n e r _ ih => obtain ⟨h1, _, _, h2, _⟩ := h; have := ih h2; simp only [sumN]; omega

/-- One term more. -/
theorem nat_one_nf {e : T} (he : e.Nf) : ∀ s : T, s.Nf → s.sumN + 1 ≤ 9999 → (nat s (c 1 e z)).Nf ∧ (nat s (c 1 e z)).sumN = s.sumN + 1 ∧ (∀ q, ok (some q) s → e.cmp q = -1 → ok (some q) (nat s (c 1 e z))) := by
  intro s
  induction s with
  | z =>
    intro _ _
    rw [z_nat]
    exact ⟨⟨by omega, by omega, he, trivial, ok_z _⟩, rfl, fun q _ h => ok_c.2 h⟩
  | c n f q _ ih =>
    intro hs hb
    obtain ⟨h1, h2, h3, h4, h5⟩ := hs
    have hq := sumN_nonneg h4
    simp only [sumN] at hb ⊢
    rcases cmp_vals f e with h | h | h
    · rw [nat_lt n 1 q z h, nat_z]
      refine ⟨⟨by omega, by omega, he, ⟨h1, h2, h3, h4, h5⟩, ok_c.2 h⟩, by simp only [sumN]; omega, fun p _ hp => ok_c.2 hp⟩
    · rw [nat_eq n 1 q z h, nat_z]
      refine ⟨⟨by omega, by omega, h3, h4, h5⟩, by simp only [sumN]; omega, fun p hp _ => ok_c.2 (ok_c.1 hp)⟩
    · rw [nat_gt n 1 q z h]
      obtain ⟨k1, k2, k3⟩ := ih h4 (by omega)
      have hsw := cmp_swap f e
      refine ⟨⟨h1, h2, h3, k1, k3 f h5 (by omega)⟩, by simp only [sumN]; rw [k2]; omega, fun p hp _ => ok_c.2 (ok_c.1 hp)⟩

theorem nat_one_len (e : T) : ∀ s : T, s.body.length ≤ (nat s (c 1 e z)).body.length ∧ (c 1 e z).body.length ≤ (nat s (c 1 e z)).body.length := by
  intro s
  induction s with
  | z => rw [z_nat]; exact ⟨by simp [body], Nat.le_refl _⟩
  | c n f q _ ih =>
    rcases cmp_vals f e with h | h | h
    · rw [nat_lt n 1 q z h, nat_z, body_c 1 e (c n f q), body_c 1 e z]
      simp [body]
      omega
    · have hef := cmp_eq h
      subst hef
      rw [nat_eq n 1 q z h, nat_z, body_c, body_c, body_c]
      simp [body]
    · rw [nat_gt n 1 q z h, body_c n f (nat q (c 1 e z)), body_c n f q]
      obtain ⟨k1, k2⟩ := ih
      simp
      constructor
      · exact k1
      · omega
end T
namespace H
/-- The natural sum of what is there and w to the power of each branch. -/
def ordA : H → T → T
  | z, a => a
  | c k r, a => ordA r (T.nat a (.c 1 (ordA k .z) .z))
def ord (f : H) : T := ordA f .z
theorem ordA_app (d u : H) (a : T) : ordA (d.app u) a = ordA u (ordA d a) := by
  induction d generalizing a with
  | z => rfl
  | c k r _ ih => rw [app, ordA, ordA, ih]
theorem ord_snoc (d k : H) : ord (d.app (c k z)) = T.nat (ord d) (.c 1 (ord k) .z) := by rw [ord, ordA_app]; rfl
theorem ordA_nf : ∀ (f : H) (a : T), a.Nf → a.sumN + f.cnt ≤ 9999 → f.body.length ≤ 9000 → (ordA f a).Nf ∧ (ordA f a).sumN = a.sumN + f.cnt := by
  intro f
  induction f with
  | z => intro a h1 h2 h3; exact ⟨h1, by simp [ordA, cnt]⟩
  | c k r ihk ihr =>
    intro a h1 h2 h3
    have hk := cnt_le k
    have hl : (c k r).body.length = k.body.length + 1 + r.body.length := by rw [body_c, List.length_append, enc_len]
    have hc : ((c k r).cnt : Int) = (r.cnt : Int) + 1 := by simp [cnt]
    obtain ⟨q1, q2⟩ := ihk .z trivial (by simp only [T.sumN]; omega) (by omega)
    obtain ⟨p1, p2, _⟩ := T.nat_one_nf q1 a h1 (by omega)
    obtain ⟨s1, s2⟩ := ihr _ p1 (by omega) (by omega)
    exact ⟨s1, by rw [ordA, s2, p2]; omega⟩
theorem ord_nf {f : H} (h : f.body.length ≤ 9000) : (ord f).Nf := (ordA_nf f .z trivial (by have := cnt_le f; simp only [T.sumN]; omega) h).1
theorem ord_sum {f : H} (h : f.body.length ≤ 9000) : (ord f).sumN = f.cnt := by
  have h1 := (ordA_nf f .z trivial (by have := cnt_le f; simp only [T.sumN]; omega) h).2
  rw [ord, h1]; simp [T.sumN]
theorem ordA_len (f : H) (a : T) : a.body.length ≤ (ordA f a).body.length := by
  induction f generalizing a with
  | z => exact Nat.le_refl _
  | c k r _ ih => rw [ordA]; exact Nat.le_trans (T.nat_one_len _ a).1 (ih _)
theorem ordA_max (f : H) : ∀ a : T, (ordA f a).body.length ≤ a.body.length + 2 * f.body.length := by
  induction f with
  | z => intro a; simp [ordA]
  | c k r ihk ihr =>
    intro a
    have h1 := ihr (T.nat a (.c 1 (ordA k .z) .z))
    have h2 := T.nat_len a (.c 1 (ordA k .z) .z)
    have h3 := ihk .z
    have hl : (c k r).body.length = k.body.length + 1 + r.body.length := by rw [body_c, List.length_append, enc_len]
    have h4 : (T.c 1 (ordA k .z) .z).body.length = 2 + (ordA k .z).body.length := by rw [T.body_c]; simp [T.body, T.enc_len]; omega
    rw [ordA]
    simp only [T.body, List.length_nil] at h3
    omega
theorem ord_max (f : H) : (ord f).enc.length ≤ 1 + 2 * f.body.length := by
  have := ordA_max f .z
  rw [T.enc_len, ord]
  simp only [T.body, List.length_nil] at this
  omega
/-- The parts of an ordinal are no longer than it. -/
theorem ord_part {d k r f : H} (h : d.app (c k r) = f) : (ord (d.app (c k z))).body.length ≤ (ord f).body.length ∧ (ord d).body.length ≤ (ord (d.app (c k z))).body.length ∧ (ord k).body.length + 2 ≤ (ord (d.app (c k z))).body.length := by
  have h1 : f = (d.app (c k z)).app r := by rw [app_assoc]; exact h.symm
  refine ⟨?_, ?_, ?_⟩
  · rw [h1, ord, ord, ordA_app (d.app (c k z)) r]
    exact ordA_len _ _
  · rw [ord_snoc]; exact (T.nat_one_len _ _).1
  · rw [ord_snoc]
    have := (T.nat_one_len (ord k) (ord d)).2
    rw [T.body_c] at this
    simp [T.body, T.enc_len] at this
    omega

theorem vld_ord {f : H} (h : f.body.length ≤ 9000) : T.vldB (ord f).enc = decide ((ord f).enc.length ≤ 60) := by
  by_cases h1 : (ord f).enc.length ≤ 60
  · rw [T.vld_mk (ord_nf h) h1]; simp [h1]
  · have : T.vldB (ord f).enc = false := T.vldB_false.2 (fun h' => h1 h'.1)
    rw [this]; simp [h1]

/-- What the program reckons for one branch more. -/
theorem ord_step {d k r f : H} (h : d.app (c k r) = f) (hf : f.body.length ≤ 9000) :
    T.natRow (T.fit (ord d)) (T.powRow (T.fit (ord k))) = T.fit (ord (d.app (c k z))) ∧ T.natOk (T.fit (ord d)) (T.powRow (T.fit (ord k))) = T.vldB (ord (d.app (c k z))).enc := by
  have hfb : f.body.length = d.body.length + (k.body.length + 1 + r.body.length) := by rw [← h, app_body, List.length_append, body_c, List.length_append, enc_len]
  have hdk : (d.app (c k z)).body.length ≤ 9000 := by
    rw [app_body, List.length_append, body_c, List.length_append, enc_len]
    simp [body]; omega
  have vd := vld_ord (f := d) (by omega)
  have vk := vld_ord (f := k) (by omega)
  have vs := vld_ord hdk
  obtain ⟨_, p2, p3⟩ := ord_part h
  have e1 := T.enc_len (ord d)
  have e2 := T.enc_len (ord k)
  have e3 := T.enc_len (ord (d.app (c k z)))
  have hpn : (T.c 1 (ord k) .z).Nf := ⟨by omega, by omega, ord_nf (by omega), trivial, T.ok_z _⟩
  have e4 : (T.c 1 (ord k) .z).enc.length = 2 + (ord k).enc.length := by rw [T.enc_len, T.body_c]; simp [T.body]; omega
  have hnil : T.vldB [] = false := T.vldB_false.2 (by rintro ⟨_, t, h, _⟩; exact T.enc_ne t h.symm)
  by_cases hs : (ord (d.app (c k z))).enc.length ≤ 60
  · have wd : T.vldB (ord d).enc = true := by rw [vd]; simp; omega
    have wk : T.vldB (ord k).enc = true := by rw [vk]; simp; omega
    have wp : T.vldB (T.c 1 (ord k) .z).enc = true := T.vld_mk hpn (by omega)
    have f1 : T.fit (ord d) = (ord d).enc := by rw [T.fit, if_pos wd]
    have f2 : T.fit (ord k) = (ord k).enc := by rw [T.fit, if_pos wk]
    have f3 : T.powRow (ord k).enc = (T.c 1 (ord k) .z).enc := by rw [T.powRow, if_pos wk, T.of_enc, T.fit, if_pos wp]
    rw [f1, f2, f3]
    obtain ⟨q1, q2⟩ := T.natRow_val wd wp
    rw [q1, q2, T.of_enc, T.of_enc, ord_snoc]
    exact ⟨rfl, rfl⟩
  · have ws : T.vldB (ord (d.app (c k z))).enc = false := by rw [vs]; simp; omega
    have f0 : T.fit (ord (d.app (c k z))) = [] := by rw [T.fit, if_neg (by rw [ws]; simp)]
    rw [ws, f0]
    by_cases hd : (ord d).enc.length ≤ 60
    · have wd : T.vldB (ord d).enc = true := by rw [vd]; simp; omega
      have f1 : T.fit (ord d) = (ord d).enc := by rw [T.fit, if_pos wd]
      by_cases hk : (ord k).enc.length ≤ 60
      · have wk : T.vldB (ord k).enc = true := by rw [vk]; simp; omega
        have f2 : T.fit (ord k) = (ord k).enc := by rw [T.fit, if_pos wk]
        by_cases hp : (T.c 1 (ord k) .z).enc.length ≤ 60
        · have wp : T.vldB (T.c 1 (ord k) .z).enc = true := T.vld_mk hpn hp
          have f3 : T.powRow (ord k).enc = (T.c 1 (ord k) .z).enc := by rw [T.powRow, if_pos wk, T.of_enc, T.fit, if_pos wp]
          rw [f1, f2, f3]
          obtain ⟨q1, q2⟩ := T.natRow_val wd wp
          rw [q1, q2, T.of_enc, T.of_enc, ← ord_snoc]
          exact ⟨f0, ws⟩
        · have wp : T.vldB (T.c 1 (ord k) .z).enc = false := T.vldB_false.2 (fun h' => hp h'.1)
          have f3 : T.powRow (ord k).enc = [] := by rw [T.powRow, if_pos wk, T.of_enc, T.fit, if_neg (by rw [wp]; simp)]
          rw [f1, f2, f3]
          exact T.natRow_bad (.inr hnil)
      · have wk : T.vldB (ord k).enc = false := by rw [vk]; simp; omega
        have f2 : T.fit (ord k) = [] := by rw [T.fit, if_neg (by rw [wk]; simp)]
        have f3 : T.powRow [] = [] := by rw [T.powRow, if_neg (by rw [hnil]; simp)]
        rw [f2, f3]
        exact T.natRow_bad (.inr hnil)
    · have wd : T.vldB (ord d).enc = false := by rw [vd]; simp; omega
      have f1 : T.fit (ord d) = [] := by rw [T.fit, if_neg (by rw [wd]; simp)]
      rw [f1]
      exact T.natRow_bad (.inl hnil)

noncomputable def ordRow (xs : List Int) : List Int := if hvB xs = true then T.fit (ord (of xs)) else []
noncomputable def ordRowOk (xs : List Int) : Bool := hvB xs && T.vldB (ord (of xs)).enc
theorem ordRow_len (xs : List Int) : (ordRow xs).length ≤ 1000 := by
  unfold ordRow
  split
  · exact T.fit_len _
  · simp
end H
end Go.Proofs.Ytlbaelehmoidpaa

/- AddM -/
/- Sums: brackets do not matter, and the order of the second ones stays. -/
namespace Go.Proofs.Ytlbaelehmoidpaa
set_option maxRecDepth 100000
namespace T

theorem add_z (s : T) : add s z = s := rfl
theorem z_add (t : T) : add z t = t := by cases t <;> rfl
theorem add_gt {f e : T} (n m : Int) (q r : T) (h : f.cmp e = 1) : add (c n f q) (c m e r) = c n f (add q (c m e r)) := by
  rw [add, (take_step n q h).1, (take_step n q h).2]; rfl
theorem add_eq {f e : T} (n m : Int) (q r : T) (h : f.cmp e = 0) : add (c n f q) (c m e r) = c (m + n) e r := by
  rw [add, (take_stop n q (by omega)).1, (take_stop n q (by omega)).2, addTail, if_pos h]; rfl
theorem add_lt {f e : T} (n m : Int) (q r : T) (h : f.cmp e = -1) : add (c n f q) (c m e r) = c m e r := by
  rw [add, (take_stop n q (by omega)).1, (take_stop n q (by omega)).2, addTail, if_neg (by omega)]; rfl

theorem cmp_gt {n m : Int} {f e q r : T} (h : f.cmp e = 1) : (c n f q).cmp (c m e r) = 1 := by rw [cmp_c, if_neg (by omega), h]
theorem cmp_lt {n m : Int} {f e q r : T} (h : f.cmp e = -1) : (c n f q).cmp (c m e r) = -1 := by rw [cmp_c, if_neg (by omega), h]
theorem cmp_same (n : Int) (f q r : T) : (c n f q).cmp (c n f r) = q.cmp r := by rw [cmp_c, if_pos (cmp_refl f), if_neg (by omega), if_neg (by omega)]
theorem cmp_less {n m : Int} (f q r : T) (h : n < m) : (c n f q).cmp (c m f r) = -1 := by rw [cmp_c, if_pos (cmp_refl f), if_pos h]
theorem cmp_more {n m : Int} (f q r : T) (h : m < n) : (c n f q).cmp (c m f r) = 1 := by rw [cmp_c, if_pos (cmp_refl f), if_neg (by omega), if_pos h]
theorem cmp_trans' {a b d : T} (h1 : a.cmp b = 1) (h2 : b.cmp d = 1) : a.cmp d = 1 := by
  have h3 := cmp_swap a b
  have h4 := cmp_swap b d
  have h5 := cmp_trans (a := d) (b := b) (d := a) (by omega) (by omega)
  have h6 := cmp_swap d a
  omega

/-- Numbers of terms that are there. -/
def Pos : T → Prop
  | z => True
  | c n _ r => 1 ≤ n ∧ r.Pos
theorem nf_pos {t : T} (h : t.Nf) : t.Pos := by
  induction t with
  | z => trivial
  | c n e r _ ih => exact ⟨h.1, ih h.2.2.2.1⟩

theorem add_self {s : T} {m : Int} {e r : T} (hm : 1 ≤ m) : (add s (c m e r)).cmp s = 1 := by
  induction s with
  | z => rfl
  | c n f q _ ih =>
    rcases cmp_vals f e with h | h | h
    · rw [add_lt n m q r h]
      exact cmp_gt (by have := cmp_swap f e; omega)
    · rw [add_eq n m q r h]
      have hfe := cmp_eq h
      subst hfe
      exact cmp_more _ _ _ (by omega)
    · rw [add_gt n m q r h, cmp_same]; exact ih

theorem add_mono : ∀ (s b d : T), s.Pos → b.Pos → d.Pos → (add s d).cmp (add s b) = d.cmp b := by
  intro s
  induction s with
  | z => intro b d _ _ _; rw [z_add, z_add]
  | c n f q _ ih =>
    intro b d hs hb hd
    cases b with
    | z =>
      cases d with
      | z => rw [cmp_refl, cmp_refl]
      | c m e r => rw [add_z, add_self hd.1]; rfl
    | c m' e' r' =>
      cases d with
      | z =>
        have h1 := add_self (s := c n f q) (e := e') (r := r') hb.1
        have h2 := cmp_swap (add (c n f q) (c m' e' r')) (c n f q)
        rw [add_z]
        have h3 : (z : T).cmp (c m' e' r') = -1 := rfl
        omega
      | c m e r =>
        have hsw := cmp_swap f e
        have hsw' := cmp_swap f e'
        rcases cmp_vals f e with h | h | h <;> rcases cmp_vals f e' with h' | h' | h'
        · rw [add_lt n m q r h, add_lt n m' q r' h']
        · rw [add_lt n m q r h, add_eq n m' q r' h']
          have hfe := cmp_eq h'
          subst hfe
          rw [cmp_gt (by omega), cmp_gt (by omega)]
        · rw [add_lt n m q r h, add_gt n m' q r' h', cmp_gt (by omega), cmp_gt (cmp_trans' (b := f) (by omega) h')]
        · rw [add_eq n m q r h, add_lt n m' q r' h']
          have hfe := cmp_eq h
          subst hfe
          rw [cmp_lt h', cmp_lt h']
        · rw [add_eq n m q r h, add_eq n m' q r' h']
          have hfe := cmp_eq h
          have hfe' := cmp_eq h'
          subst hfe; subst hfe'
          rcases Int.lt_trichotomy m m' with h1 | h1 | h1
          · rw [cmp_less _ _ _ (by omega), cmp_less _ _ _ h1]
          · subst h1; rw [cmp_same, cmp_same]
          · rw [cmp_more _ _ _ (by omega), cmp_more _ _ _ h1]
        · rw [add_eq n m q r h, add_gt n m' q r' h']
          have hfe := cmp_eq h
          subst hfe
          rw [cmp_more _ _ _ (by have := hd.1; omega), cmp_gt h']
        · rw [add_gt n m q r h, add_lt n m' q r' h', cmp_lt h', cmp_lt (cmp_trans (b := f) (by omega) h')]
        · rw [add_gt n m q r h, add_eq n m' q r' h']
          have hfe := cmp_eq h'
          subst hfe
          rw [cmp_less _ _ _ (by have := hb.1; omega), cmp_lt (by omega)]
        · rw [add_gt n m q r h, add_gt n m' q r' h', cmp_same]
          exact ih _ _ hs.2 hb hd

theorem add_ge_r : ∀ (s b : T), s.Pos → (add s b).cmp b ≠ -1 := by
  intro s b hs
  cases b with
  | z => rw [add_z]; cases s <;> simp [cmp]
  | c m e r =>
    cases s with
    | z => rw [z_add, cmp_refl]; decide
    | c n f q =>
      rcases cmp_vals f e with h | h | h
      · rw [add_lt n m q r h, cmp_refl]; decide
      · rw [add_eq n m q r h, cmp_more _ _ _ (by have := hs.1; omega)]; decide
      · rw [add_gt n m q r h, cmp_gt h]; decide

theorem add_assoc : ∀ (a b d : T), add (add a b) d = add a (add b d) := by
  intro a
  induction a with
  | z => intro b d; rw [z_add, z_add]
  | c n f q _ ih =>
    intro b d
    cases d with
    | z => rfl
    | c k g p =>
      cases b with
      | z => rw [add_z, z_add]
      | c m e r =>
        rcases cmp_vals e g with h | h | h
        · rw [add_lt m k r p h]
          rcases cmp_vals f e with h' | h' | h'
          · rw [add_lt n m q r h', add_lt m k r p h, add_lt n k q p (cmp_trans h' h)]
          · have hfe := cmp_eq h'
            subst hfe
            rw [add_eq n m q r h', add_lt (m + n) k r p h, add_lt n k q p h]
          · rw [add_gt n m q r h']
            rcases cmp_vals f g with h2 | h2 | h2
            · rw [add_lt n k _ p h2, add_lt n k q p h2]
            · rw [add_eq n k _ p h2, add_eq n k q p h2]
            · rw [add_gt n k _ p h2, add_gt n k q p h2, ih, add_lt m k r p h]
        · rw [add_eq m k r p h]
          have heg := cmp_eq h
          subst heg
          rcases cmp_vals f e with h' | h' | h'
          · rw [add_lt n m q r h', add_eq m k r p h, add_lt n (k + m) q p h']
          · rw [add_eq n m q r h', add_eq (m + n) k r p h, add_eq n (k + m) q p h', Int.add_assoc]
          · rw [add_gt n m q r h', add_gt n k _ p h', add_gt n (k + m) q p h', ih, add_eq m k r p h]
        · rw [add_gt m k r p h]
          rcases cmp_vals f e with h' | h' | h'
          · rw [add_lt n m q r h', add_gt m k r p h, add_lt n m q _ h']
          · have hfe := cmp_eq h'
            subst hfe
            rw [add_eq n m q r h', add_gt (m + n) k r p h, add_eq n m q _ h']
          · rw [add_gt n m q r h', add_gt n k _ p (cmp_trans' h' h), add_gt n m q _ h', ih, add_gt m k r p h]

theorem addOk_true {xs ys : List Int} (h : addOk xs ys = true) : vldB xs = true ∧ vldB ys = true ∧ vldB (addRow xs ys) = true ∧ of (addRow xs ys) = add (of xs) (of ys) := by
  have h1 : (vldB xs = true ∧ vldB ys = true) ∧ vldB (add (of xs) (of ys)).enc = true := by simpa [addOk] using h
  have h2 : addRow xs ys = (add (of xs) (of ys)).enc := by rw [(addRow_val h1.1.1 h1.1.2).1, fit, if_pos h1.2]
  exact ⟨h1.1.1, h1.1.2, by rw [h2]; exact h1.2, by rw [h2, of_enc]⟩
theorem addOk_false {xs ys : List Int} (h : addOk xs ys = false) : addRow xs ys = [] := by
  rw [addRow]
  split
  · rename_i h1
    rw [fit, if_neg]
    intro h2
    rw [addOk, h1.1, h1.2, h2] at h
    cases h
  · rfl
theorem addRow_assoc {xs ys zs : List Int} (h : addOk xs ys = true) (hp : addOk (addRow xs ys) zs = true) (hq : addOk ys zs = true) (hr : addOk xs (addRow ys zs) = true) :
    addRow (addRow xs ys) zs = addRow xs (addRow ys zs) := by
  obtain ⟨_, _, _, a4⟩ := addOk_true h
  obtain ⟨_, _, b3, b4⟩ := addOk_true hp
  obtain ⟨_, _, _, c4⟩ := addOk_true hq
  obtain ⟨_, _, d3, d4⟩ := addOk_true hr
  rw [← enc_of b3, ← enc_of d3, b4, d4, a4, c4, add_assoc]
theorem addRow_mono {xs ys zs : List Int} (h : addOk xs ys = true) (hs : addOk xs zs = true) : cmpRow (addRow xs zs) (addRow xs ys) = cmpRow zs ys := by
  obtain ⟨a1, a2, a3, a4⟩ := addOk_true h
  obtain ⟨_, b2, b3, b4⟩ := addOk_true hs
  rw [cmpRow_val b3 a3, cmpRow_val b2 a2, b4, a4]
  exact add_mono _ _ _ (nf_pos (nf_of a1)) (nf_pos (nf_of a2)) (nf_pos (nf_of b2))
theorem addRow_ge {xs ys : List Int} (h : addOk xs ys = true) : 0 ≤ cmpRow (addRow xs ys) xs ∧ 0 ≤ cmpRow (addRow xs ys) ys := by
  obtain ⟨a1, a2, a3, a4⟩ := addOk_true h
  rw [cmpRow_val a3 a1, cmpRow_val a3 a2, a4]
  constructor
  · have h1 := add_mono (of xs) z (of ys) (nf_pos (nf_of a1)) trivial (nf_pos (nf_of a2))
    rw [add_z] at h1
    have h2 : 0 ≤ (of ys).cmp z := by cases of ys <;> simp [cmp]
    omega
  · have h1 := add_ge_r (of xs) (of ys) (nf_pos (nf_of a1))
    rcases cmp_vals (add (of xs) (of ys)) (of ys) with h | h | h <;> omega

end T
end Go.Proofs.Ytlbaelehmoidpaa

/- NatM -/
/- Natural sums: brackets and order do not matter; greater ones make greater ones; sums are at most natural sums. -/
namespace Go.Proofs.Ytlbaelehmoidpaa
set_option maxRecDepth 100000
namespace T

theorem nat_assoc : ∀ (a b d : T), nat (nat a b) d = nat a (nat b d) := by
  intro a
  induction a with
  | z => intro b d; rw [z_nat, z_nat]
  | c n f q _ iha =>
    intro b
    induction b with
    | z => intro d; rw [nat_z, z_nat]
    | c m e r _ ihb =>
      intro d
      induction d with
      | z => rw [nat_z, nat_z]
      | c k g p _ ihd =>
        rcases cmp_vals f e with h | h | h
        · rcases cmp_vals e g with h' | h' | h'
          · rw [nat_lt n m q r h, nat_lt m k _ p h', ← nat_lt n m q r h, ihd, nat_lt m k r p h', nat_lt n k q _ (cmp_trans h h')]
          · have heg := cmp_eq h'
            subst heg
            rw [nat_lt n m q r h, nat_eq m k _ p h', ihb, nat_eq m k r p h', nat_lt n (m + k) q _ h]
          · rw [nat_lt n m q r h, nat_gt m k _ p h', ihb, nat_gt m k r p h', nat_lt n m q _ h]
        · have hfe := cmp_eq h
          subst hfe
          rcases cmp_vals f g with h' | h' | h'
          · rw [nat_eq n m q r h, nat_lt (n + m) k _ p h', ← nat_eq n m q r h, ihd, nat_lt m k r p h', nat_lt n k q _ h']
          · have hfg := cmp_eq h'
            subst hfg
            rw [nat_eq n m q r h, nat_eq (n + m) k _ p h', iha, nat_eq m k r p h', nat_eq n (m + k) q _ h', Int.add_assoc]
          · rw [nat_eq n m q r h, nat_gt (n + m) k _ p h', iha, nat_gt m k r p h', nat_eq n m q _ h]
        · rcases cmp_vals f g with h' | h' | h'
          · have h2 : e.cmp g = -1 := cmp_trans (b := f) (by have := cmp_swap f e; omega) h'
            rw [nat_gt n m q r h, nat_lt n k _ p h', ← nat_gt n m q r h, ihd, nat_lt m k r p h2, nat_lt n k q _ h']
          · have hfg := cmp_eq h'
            subst hfg
            have h2 : e.cmp f = -1 := by have := cmp_swap f e; omega
            rw [nat_gt n m q r h, nat_eq n k _ p h', iha, nat_lt m k r p h2, nat_eq n k q _ h']
          · rw [nat_gt n m q r h, nat_gt n k _ p h', iha]
            rcases cmp_vals e g with h2 | h2 | h2
            · rw [nat_lt m k r p h2, nat_gt n k q _ h']
            · have heg := cmp_eq h2
              subst heg
              rw [nat_eq m k r p h2, nat_gt n (m + k) q _ h]
            · rw [nat_gt m k r p h2, nat_gt n m q _ h]

theorem nat_self {s : T} {k : Int} {g p : T} (hk : 1 ≤ k) : (nat s (c k g p)).cmp s = 1 := by
  induction s with
  | z => rw [z_nat]; rfl
  | c n f q _ ih =>
    rcases cmp_vals f g with h | h | h
    · rw [nat_lt n k q p h]
      exact cmp_gt (by have := cmp_swap f g; omega)
    · rw [nat_eq n k q p h]
      exact cmp_more _ _ _ (by omega)
    · rw [nat_gt n k q p h, cmp_same]; exact ih

theorem nat_mono : ∀ (a b d : T), b.Pos → d.Pos → (nat a d).cmp (nat a b) = d.cmp b := by
  intro a
  induction a with
  | z => intro b d _ _; rw [z_nat, z_nat]
  | c n f q _ iha =>
    intro b
    induction b with
    | z =>
      intro d _ hd
      cases d with
      | z => rw [cmp_refl, cmp_refl]
      | c k g p => rw [nat_z, nat_self hd.1]; rfl
    | c m e r _ ihb =>
      intro d hb hd
      cases d with
      | z =>
        have h1 := nat_self (s := c n f q) (g := e) (p := r) hb.1
        have h2 := cmp_swap (nat (c n f q) (c m e r)) (c n f q)
        rw [nat_z]
        have h3 : (z : T).cmp (c m e r) = -1 := rfl
        omega
      | c k g p =>
        have hsw := cmp_swap f g
        have hsw' := cmp_swap f e
        rcases cmp_vals f g with h | h | h <;> rcases cmp_vals f e with h' | h' | h'
        · rw [nat_lt n k q p h, nat_lt n m q r h', cmp_c, cmp_c, ihb p hb.2 hd.2]
        · have hfe := cmp_eq h'
          subst hfe
          rw [nat_lt n k q p h, nat_eq n m q r h', cmp_gt (by omega), cmp_gt (by omega)]
        · rw [nat_lt n k q p h, nat_gt n m q r h', cmp_gt (by omega), cmp_gt (cmp_trans' (b := f) (by omega) h')]
        · have hfg := cmp_eq h
          subst hfg
          rw [nat_eq n k q p h, nat_lt n m q r h', cmp_lt h', cmp_lt h']
        · have hfg := cmp_eq h
          have hfe := cmp_eq h'
          subst hfg; subst hfe
          rw [nat_eq n k q p h, nat_eq n m q r h]
          rcases Int.lt_trichotomy k m with h1 | h1 | h1
          · rw [cmp_less _ _ _ (by omega), cmp_less _ _ _ h1]
          · subst h1; rw [cmp_same, cmp_same]; exact iha _ _ hb.2 hd.2
          · rw [cmp_more _ _ _ (by omega), cmp_more _ _ _ h1]
        · have hfg := cmp_eq h
          subst hfg
          rw [nat_eq n k q p h, nat_gt n m q r h', cmp_more _ _ _ (by have := hd.1; omega), cmp_gt h']
        · rw [nat_gt n k q p h, nat_lt n m q r h', cmp_lt h', cmp_lt (cmp_trans (b := f) (by omega) h')]
        · have hfe := cmp_eq h'
          subst hfe
          rw [nat_gt n k q p h, nat_eq n m q r h', cmp_less _ _ _ (by have := hb.1; omega), cmp_lt (by omega)]
        · rw [nat_gt n k q p h, nat_gt n m q r h', cmp_same]
          exact iha _ _ hb hd

theorem nat_ge (s t : T) (hs : s.Pos) : t.cmp (nat s t) ≠ 1 := by
  have h1 := nat_mono t z s trivial hs
  rw [nat_z, nat_comm t s] at h1
  have h2 := cmp_swap (nat s t) t
  have h3 : s.cmp z ≠ -1 := by cases s <;> simp [cmp]
  omega

theorem add_le_nat : ∀ (s t : T), s.Pos → (add s t).cmp (nat s t) ≠ 1 := by
  intro s
  induction s with
  | z => intro t _; rw [z_add, z_nat, cmp_refl]; decide
  | c n f q _ ih =>
    intro t hs
    cases t with
    | z => rw [add_z, nat_z, cmp_refl]; decide
    | c m e r =>
      rcases cmp_vals f e with h | h | h
      · rw [add_lt n m q r h, nat_lt n m q r h, cmp_same]; exact nat_ge _ _ hs
      · have hfe := cmp_eq h
        subst hfe
        rw [add_eq n m q r h, nat_eq n m q r h, Int.add_comm, cmp_same]; exact nat_ge _ _ hs.2
      · rw [add_gt n m q r h, nat_gt n m q r h, cmp_same]; exact ih _ hs.2

theorem natOk_true {xs ys : List Int} (h : natOk xs ys = true) : vldB xs = true ∧ vldB ys = true ∧ vldB (natRow xs ys) = true ∧ of (natRow xs ys) = nat (of xs) (of ys) := by
  have h1 : (vldB xs = true ∧ vldB ys = true) ∧ vldB (nat (of xs) (of ys)).enc = true := by simpa [natOk] using h
  have h2 : natRow xs ys = (nat (of xs) (of ys)).enc := by rw [(natRow_val h1.1.1 h1.1.2).1, fit, if_pos h1.2]
  exact ⟨h1.1.1, h1.1.2, by rw [h2]; exact h1.2, by rw [h2, of_enc]⟩
theorem natOk_false {xs ys : List Int} (h : natOk xs ys = false) : natRow xs ys = [] := by
  rw [natRow]
  split
  · rename_i h1
    rw [fit, if_neg]
    intro h2
    rw [natOk, h1.1, h1.2, h2] at h
    cases h
  · rfl
theorem natRow_comm (xs ys : List Int) : natRow ys xs = natRow xs ys ∧ natOk ys xs = natOk xs ys := by
  constructor
  · rw [natRow, natRow, nat_comm (of ys)]
    by_cases h1 : vldB xs = true <;> by_cases h2 : vldB ys = true <;> simp [h1, h2]
  · rw [natOk, natOk, nat_comm (of ys), Bool.and_comm (vldB ys)]
theorem natRow_assoc {xs ys zs : List Int} (h : natOk xs ys = true) (hp : natOk (natRow xs ys) zs = true) (hq : natOk ys zs = true) (hr : natOk xs (natRow ys zs) = true) :
    natRow (natRow xs ys) zs = natRow xs (natRow ys zs) := by
  obtain ⟨_, _, _, a4⟩ := natOk_true h
  obtain ⟨_, _, b3, b4⟩ := natOk_true hp
  obtain ⟨_, _, _, c4⟩ := natOk_true hq
  obtain ⟨_, _, d3, d4⟩ := natOk_true hr
  rw [← enc_of b3, ← enc_of d3, b4, d4, a4, c4, nat_assoc]
theorem natRow_mono {xs ys zs : List Int} (h : natOk xs ys = true) (hs : natOk xs zs = true) : cmpRow (natRow xs zs) (natRow xs ys) = cmpRow zs ys := by
  obtain ⟨a1, a2, a3, a4⟩ := natOk_true h
  obtain ⟨_, b2, b3, b4⟩ := natOk_true hs
  rw [cmpRow_val b3 a3, cmpRow_val b2 a2, b4, a4]
  exact nat_mono _ _ _ (nf_pos (nf_of a2)) (nf_pos (nf_of b2))
theorem natRow_sum {xs ys : List Int} (h : natOk xs ys = true) (hs : addOk xs ys = true) : cmpRow (addRow xs ys) (natRow xs ys) ≤ 0 := by
  obtain ⟨a1, a2, a3, a4⟩ := natOk_true h
  obtain ⟨_, b2, b3, b4⟩ := addOk_true hs
  rw [cmpRow_val b3 a3, b4, a4]
  have h1 := add_le_nat (of xs) (of ys) (nf_pos (nf_of a1))
  rcases cmp_vals (add (of xs) (of ys)) (nat (of xs) (of ys)) with h | h | h <;> omega

end T
end Go.Proofs.Ytlbaelehmoidpaa

/- HydCM -/
/- Every cut makes the ordinal less; with one branch in place of one each cut takes one number. -/
namespace Go.Proofs.Ytlbaelehmoidpaa
set_option maxRecDepth 100000
namespace H

theorem ordA_nat (f : H) : ∀ a : T, ordA f a = T.nat a (ordA f .z) := by
  induction f with
  | z => intro a; rw [ordA, ordA, T.nat_z]
  | c k r _ ihr =>
    intro a
    rw [ordA, ordA, T.z_nat, ihr, ihr (T.c 1 (ordA k .z) .z), T.nat_assoc]
theorem ord_c (k r : H) : ord (c k r) = T.nat (.c 1 (ord k) .z) (ord r) := by rw [ord, ordA, T.z_nat, ordA_nat]; rfl
theorem ord_rep (n : Nat) (k r : H) : ord (rep (n + 1) k r) = T.nat (.c ((n : Int) + 1) (ord k) .z) (ord r) := by
  induction n with
  | zero => rw [rep, rep, ord_c]; rfl
  | succ n ih =>
    rw [rep, ord_c, ih, ← T.nat_assoc, T.nat_eq _ _ _ _ (T.cmp_refl _), T.nat_z]
    congr 2
    push_cast; omega

theorem cut_lt (n : Nat) (hn : 1 ≤ n) : ∀ (f : H) (h : Int), 0 ≤ h → h < noughts f.body → f.body.length ≤ 900 → n ≤ 9 → (ord (cut n f h).1).cmp (ord f) = -1 := by
  intro f
  induction f with
  | z => intro h h0 h1; simp [body, noughts] at h1; omega
  | c k r ihk ihr =>
    intro h h0 h1 hl h9
    have hlb : (c k r).body.length = k.body.length + 1 + r.body.length := by rw [body_c, List.length_append, enc_len]
    rw [body_c, noughts_app] at h1
    have hpos : ∀ g : H, g.body.length ≤ 9000 → (ord g).Pos := fun g hg => T.nf_pos (ord_nf hg)
    by_cases hh : heads k ≤ h
    · rw [cut_past (.inr hh)]
      simp only []
      rw [ord_c, ord_c]
      have hcl := (cut_len n hn r (h - heads k)).1
      have : n * r.body.length ≤ 9 * r.body.length := Nat.mul_le_mul_right _ h9
      rw [T.nat_mono _ _ _ (hpos r (by omega)) (hpos _ (by omega))]
      exact ihr _ (by omega) (by unfold heads; push_cast at h1; omega) (by omega) h9
    · by_cases hz : k = z
      · subst hz
        rw [cut_head h0 (by omega)]
        simp only []
        rw [ord_c, T.nat_comm]
        have h2 := T.nat_self (s := ord r) (k := 1) (g := ord z) (p := .z) (by omega)
        have h3 := T.cmp_swap (T.nat (ord r) (.c 1 (ord z) .z)) (ord r)
        omega
      · rw [cut_in h0 (by omega) hz]
        have hn0 : heads k = (noughts k.body : Int) := by
          unfold heads
          rw [enc, noughts, if_neg (fun e => hz (cnt_zero (by omega)))]; simp
        have hi := ihk h h0 (by omega) (by omega) h9
        have hcl := (cut_len n hn k h).1
        have h8 : n * k.body.length ≤ 9 * k.body.length := Nat.mul_le_mul_right _ h9
        obtain ⟨k', hk'⟩ : ∃ k', k' = (cut n k h).1 := ⟨_, rfl⟩
        rw [← hk'] at hi hcl ⊢
        simp only []
        obtain ⟨m, rfl⟩ : ∃ m, n = m + 1 := ⟨n - 1, by omega⟩
        have key : ∀ q : Int, 1 ≤ q → (T.nat (.c q (ord k') .z) (ord r)).cmp (T.nat (.c 1 (ord k) .z) (ord r)) = -1 := by
          intro q hq
          have p1 : ∀ (q : Int) (a : T), 1 ≤ q → (T.c q a .z).Pos := fun q a h => ⟨h, trivial⟩
          rw [T.nat_comm _ (ord r), T.nat_comm _ (ord r), T.nat_mono _ _ _ (p1 1 _ (by omega)) (p1 q _ hq)]
          simp only [T.cmp, hi]
          rw [if_neg (by decide)]
        split
        · rw [ord_rep, ord_c]; exact key _ (by omega)
        · rw [ord_c, ord_c]; exact key 1 (by omega)

theorem cut_one : ∀ (f : H) (h : Int), 0 ≤ h → h < noughts f.body → (cut 1 f h).1.body.length + 1 = f.body.length := by
  intro f
  induction f with
  | z => intro h h0 h1; simp [body, noughts] at h1; omega
  | c k r ihk ihr =>
    intro h h0 h1
    rw [body_c, noughts_app] at h1
    have hl : (c k r).body.length = k.body.length + 1 + r.body.length := by rw [body_c, List.length_append, enc_len]
    by_cases hh : heads k ≤ h
    · rw [cut_past (.inr hh)]
      simp only []
      have h2 := ihr (h - heads k) (by omega) (by unfold heads; push_cast at h1; omega)
      rw [body_c, List.length_append, enc_len]
      omega
    · by_cases hz : k = z
      · subst hz
        rw [cut_head h0 (by omega), hl]
        simp [body]; omega
      · rw [cut_in h0 (by omega) hz]
        have hn0 : heads k = (noughts k.body : Int) := by
          unfold heads
          rw [enc, noughts, if_neg (fun e => hz (cnt_zero (by omega)))]; simp
        have hi := ihk h h0 (by omega)
        simp only []
        have e : rep 1 (cut 1 k h).1 r = c (cut 1 k h).1 r := rfl
        rw [e, ite_self, body_c, List.length_append, enc_len, hl]
        omega

/-- What the law of HydraCut says, on rows. -/
theorem cut_facts {xs : List Int} {h n : Int} (hq : cutOkB xs h n = true) : hvB xs = true ∧ (1 ≤ n ∧ n ≤ 9) ∧ hvB (cutRow xs h n) = true ∧
    (ordRowOk xs = true → ordRowOk (cutRow xs h n) = true → T.cmpRow (ordRow (cutRow xs h n)) (ordRow xs) = -1) ∧ (n = 1 → (cutRow xs h n).length + 1 = xs.length) := by
  have hv2 := cut_hv hq
  have hrow : cutRow xs h n = (cut n.toNat (of xs) h).1.enc := if_pos hq
  rw [cutOkB, Bool.and_eq_true, Bool.and_eq_true] at hq
  obtain ⟨⟨hv, hb⟩, h60'⟩ := hq
  have hb := of_decide_eq_true hb
  obtain ⟨f, rfl, h60, hof⟩ := hv_of hv
  have hfl := enc_len f
  have hh : h < noughts f.body := by
    have h2 := hb.2.2.2
    rw [headsRow, if_pos hv] at h2
    exact h2
  refine ⟨hv, ⟨hb.1, hb.2.1⟩, hv2, fun p q => ?_, fun h1 => ?_⟩
  · rw [ordRowOk, hv, Bool.true_and, hof] at p
    rw [ordRowOk, hv2, Bool.true_and] at q
    rw [ordRow, ordRow, if_pos hv, if_pos hv2, hof]
    rw [hrow, hof, of_enc] at q ⊢
    rw [T.fit, T.fit, if_pos p, if_pos q, T.cmpRow_val q p, T.of_enc, T.of_enc]
    exact cut_lt n.toNat (by omega) f h hb.2.2.1 hh (by omega) (by omega)
  · subst h1
    rw [hrow, hof, enc_len, enc_len, show (1 : Int).toNat = 1 from rfl, cut_one f h hb.2.2.1 hh]

theorem run_one : ∀ {hs xs ys : List Int}, runR 1 xs hs = some ys → ys.length + hs.length = xs.length := by
  intro hs
  induction hs with
  | nil => intro xs ys h; cases h; rfl
  | cons a r ih =>
    intro xs ys h
    rw [runR] at h
    by_cases hq : cutOkB xs a 1 = true
    · rw [if_pos hq] at h
      have h1 := ih h
      have h2 := (cut_facts hq).2.2.2.2 rfl
      simp only [List.length_cons]; omega
    · rw [if_neg hq] at h; cases h

/-- What the law of HydraRun says, on rows. -/
theorem run_facts {xs hs : List Int} {n : Int} (hq : runOkB xs hs n = true) (k : Nat) : hvB xs = true ∧ (1 ≤ n ∧ n ≤ 9) ∧ hvB (runRow xs hs n) = true ∧
    runRow (runRow xs (hs.take k) n) (hs.drop k) n = runRow xs hs n ∧ (n = 1 → (runRow xs hs n).length + hs.length = xs.length) := by
  have hrow : runRow xs hs n = (runR n xs hs).getD [] := if_pos hq
  rw [runOkB, Bool.and_eq_true, Bool.and_eq_true, Bool.and_eq_true] at hq
  obtain ⟨⟨⟨hv, hb⟩, h4⟩, hs0⟩ := hq
  have hb := of_decide_eq_true hb
  have h4 := of_decide_eq_true h4
  obtain ⟨ys, hy⟩ := Option.isSome_iff_exists.1 hs0
  rw [hrow, hy]
  have hv2 := run_hv hv hy
  refine ⟨hv, hb, hv2, ?_, fun h1 => by subst h1; exact run_one hy⟩
  have ha := run_app (n := n) (hs.take k) (hs.drop k) xs
  rw [List.take_append_drop, hy] at ha
  cases hm : runR n xs (hs.take k) with
  | none => rw [hm] at ha; cases ha
  | some zs =>
    rw [hm] at ha
    have hz := run_hv hv hm
    have e1 : runRow xs (hs.take k) n = zs := by
      rw [runRow, if_pos (by rw [run_ok hv hb (by rw [List.length_take]; omega), hm]; rfl), hm]; rfl
    have ha' : runR n zs (hs.drop k) = some ys := ha.symm
    rw [e1, runRow, if_pos (by rw [run_ok hz hb (by rw [List.length_drop]; omega), ha']; rfl), ha']
end H
end Go.Proofs.Ytlbaelehmoidpaa

/- StepsM -/
/- What the laws of the third chapter say, on trees and on rows. -/
namespace Go.Proofs.Ytlbaelehmoidpaa
set_option maxRecDepth 100000
namespace T

theorem kind_c1 {n : Int} {e : T} : (c n e z).kind = if e.cnt = 0 then 1 else 2 := rfl
theorem kind_pos {e : T} (h : e.cnt ≠ 0) : e.kind = 1 ∨ e.kind = 2 := by
  rcases kind_vals e with ⟨_, h2⟩ | ⟨h1, _⟩
  · rw [h2] at h; simp [cnt] at h
  · exact h1

/-- A step is less. -/
theorem step_lt (k : Int) {t : T} (h : t ≠ z) : (t.step k).cmp t = -1 := by
  induction t with
  | z => exact absurd rfl h
  | c n e r ihe ihr =>
    cases r with
    | c m f q => rw [show (c n e (c m f q)).step k = c n e ((c m f q).step k) from rfl, cmp_same]; exact ihr (by simp)
    | z =>
      rw [show (c n e z).step k = (if n = 1 then z else c (n - 1) e z).app (tail k e) from rfl]
      by_cases h1 : n = 1
      · rw [if_pos h1, show (z : T).app (tail k e) = tail k e from rfl]
        unfold tail
        by_cases h0 : e.kind = 0
        · rw [if_pos h0]; rfl
        · have he : e ≠ z := by rintro rfl; exact h0 rfl
          have h2 := ihe he
          rw [if_neg h0]
          split
          · split
            · rfl
            · exact cmp_lt h2
          · exact cmp_lt h2
      · rw [if_neg h1]
        exact cmp_less _ _ _ (by omega)

theorem app_cmp (d u v : T) : (d.app u).cmp (d.app v) = u.cmp v := by
  induction d with
  | z => rfl
  | c n e r _ ih => simp only [app]; rw [cmp_same, ih]

/-- The step of an ordinal of the kind 1 is the same one for every number. -/
theorem step_one (k : Int) {t : T} (h : t.kind = 1) : t.step k = t.less := by
  have hp : 0 < t.cnt := by
    cases t with
    | z => simp [kind] at h
    | c n e r => simp [cnt]
  obtain ⟨d, n, e, hd, _⟩ := last_of t hp
  have hk : t.kind = if e.cnt = 0 then 1 else 2 := by rw [hd, kind_app]
  have he : e = z := by
    apply cnt_zero
    rw [h] at hk
    split at hk
    · assumption
    · omega
  rw [hd, step_app, he]
  simp [tail, kind, app_z]

/-- For a greater number it is greater. -/
theorem step_mono {k : Int} (hk : 0 ≤ k) {t : T} (h : t.kind = 2) : (t.step k).cmp (t.step (k + 1)) = -1 := by
  induction t with
  | z => simp [kind] at h
  | c n e r ihe ihr =>
    cases r with
    | c m f q =>
      rw [show (c n e (c m f q)).step k = c n e ((c m f q).step k) from rfl, show (c n e (c m f q)).step (k + 1) = c n e ((c m f q).step (k + 1)) from rfl, cmp_same]
      exact ihr h
    | z =>
      rw [show (c n e z).step k = (if n = 1 then z else c (n - 1) e z).app (tail k e) from rfl, show (c n e z).step (k + 1) = (if n = 1 then z else c (n - 1) e z).app (tail (k + 1) e) from rfl, app_cmp]
      rw [kind_c1] at h
      have hc : e.cnt ≠ 0 := by intro h2; rw [if_pos h2] at h; omega
      unfold tail
      rcases kind_pos hc with h1 | h1
      · simp only [h1, if_neg (show ¬ (1 : Int) = 0 by omega), if_pos, if_neg (show ¬ k + 1 = 0 by omega)]
        rw [step_one k h1, step_one (k + 1) h1]
        split
        · rfl
        · exact cmp_less _ _ _ (by omega)
      · simp only [h1, if_neg (show ¬ (2 : Int) = 0 by omega), if_neg (show ¬ (2 : Int) = 1 by omega)]
        exact cmp_lt (ihe h1)

/-- Nothing is between an ordinal of the kind 1 and the one before. -/
theorem less_most {a e : T} (ha : a.Nf) (he : e.Nf) (hk : e.kind = 1) (h : a.cmp e = -1) : a.cmp e.less = -1 ∨ a = e.less := by
  rcases cmp_vals a e.less with h1 | h1 | h1
  · exact .inl h1
  · exact .inr (cmp_eq h1)
  · have h2 := none_between (less_nf he) a ha (by have := cmp_swap a e.less; omega)
    rw [less_next he hk] at h2
    exact absurd h h2

/-- Whoever is less than the term w to the power of e, by numbers all less than k, is less than what comes in its place. -/
theorem tail_over {k : Int} {e : T} (he : e.Nf) (hc : e.cnt ≠ 0) (hk : 1 ≤ k) (ih : e.kind = 2 → ∀ a : T, a.Nf → a.most < k → a.cmp e = -1 → a.cmp (e.step k) = -1)
    {r : T} (hr : r.Nf) (hm : r.most < k) (ho : ok (some e) r) : r.cmp (tail k e) = -1 := by
  unfold tail
  rcases kind_pos hc with h1 | h1
  · simp only [h1, if_neg (show ¬ (1 : Int) = 0 by omega), if_pos, if_neg (show ¬ k = 0 by omega)]
    rw [step_one k h1]
    cases r with
    | z => rfl
    | c m f q =>
      have h2 := ok_c.1 ho
      rcases less_most hr.2.2.1 he h1 h2 with h3 | h3
      · exact cmp_lt h3
      · rw [h3]
        refine cmp_less _ _ _ ?_
        simp only [most] at hm; omega
  · simp only [h1, if_neg (show ¬ (2 : Int) = 0 by omega), if_neg (show ¬ (2 : Int) = 1 by omega)]
    cases r with
    | z => rfl
    | c m f q =>
      have h2 := ok_c.1 ho
      refine cmp_lt (ih h1 f hr.2.2.1 ?_ h2)
      simp only [most] at hm; omega

/-- Every ordinal below it whose numbers are all less than the number is less than the step. -/
theorem step_over {k : Int} (hk : 1 ≤ k) : ∀ {t : T}, t.Nf → t.kind = 2 → ∀ a : T, a.Nf → a.most < k → a.cmp t = -1 → a.cmp (t.step k) = -1 := by
  intro t
  induction t with
  | z => intro _ h; simp [kind] at h
  | c n e r ihe ihr =>
    intro hn h a ha hm hlt
    obtain ⟨hn1, hn2, hne, hnr, hno⟩ := hn
    cases r with
    | c m f q =>
      rw [show (c n e (c m f q)).step k = c n e ((c m f q).step k) from rfl]
      cases a with
      | z => rfl
      | c m' f' r' =>
        obtain ⟨g1, g2, g3, g4, g5⟩ := ha
        rw [cmp_c] at hlt ⊢
        by_cases h1 : f'.cmp e = 0
        · rw [if_pos h1] at hlt ⊢
          by_cases h2 : m' < n
          · rw [if_pos h2]
          · rw [if_neg h2] at hlt ⊢
            by_cases h3 : n < m'
            · rw [if_pos h3] at hlt; omega
            · rw [if_neg h3] at hlt ⊢
              refine ihr hnr h r' g4 ?_ hlt
              simp only [most] at hm; omega
        · rw [if_neg h1] at hlt ⊢; exact hlt
    | z =>
      rw [kind_c1] at h
      have hc : e.cnt ≠ 0 := by intro h2; rw [if_pos h2] at h; omega
      have htl : ∀ {r : T}, r.Nf → r.most < k → ok (some e) r → r.cmp (tail k e) = -1 := fun h1 h2 h3 =>
        tail_over hne hc hk (fun h4 a h5 h6 h7 => ihe hne h4 a h5 h6 h7) h1 h2 h3
      rw [show (c n e z).step k = (if n = 1 then z else c (n - 1) e z).app (tail k e) from rfl]
      cases a with
      | z =>
        have h2 := htl (r := z) trivial (by simp only [most]; omega) (ok_z _)
        split
        · exact h2
        · rfl
      | c m' f' r' =>
        have ha' := ha
        obtain ⟨g1, g2, g3, g4, g5⟩ := ha
        rw [cmp_c] at hlt
        by_cases h1 : f'.cmp e = 0
        · rw [if_pos h1] at hlt
          obtain rfl := cmp_eq h1
          by_cases h2 : m' < n
          · have hn1 : ¬ n = 1 := by omega
            rw [if_neg hn1]
            simp only [app]
            by_cases h3 : m' < n - 1
            · exact cmp_less _ _ _ h3
            · have h4 : m' = n - 1 := by omega
              subst h4
              rw [cmp_same]
              refine htl g4 ?_ g5
              simp only [most] at hm; omega
          · rw [if_neg h2] at hlt
            by_cases h3 : n < m'
            · rw [if_pos h3] at hlt; omega
            · rw [if_neg h3] at hlt
              cases r' <;> simp [cmp] at hlt
        · rw [if_neg h1] at hlt
          split
          · exact htl ha' hm (ok_c.2 hlt)
          · simp only [app]; exact cmp_lt hlt

/-- Numbers of the natural sum. -/
theorem nat_most : ∀ (s t : T), (nat s t).most ≤ s.most + t.most
  | z, t => by rw [z_nat]; simp [most]
  | c n e q, z => by rw [nat_z]; simp [most]
  | c n e q, c m f r => by
    rcases cmp_vals e f with h | h | h
    · have h1 := nat_most (c n e q) r
      have h2 := most_nonneg (c n e q)
      have h3 := most_nonneg r
      rw [nat_lt n m q r h]
      simp only [most] at h1 h2 ⊢
      omega
    · have h1 := nat_most q r
      have h2 := most_nonneg q
      have h3 := most_nonneg r
      have h4 := most_nonneg e
      have h5 := most_nonneg f
      rw [nat_eq n m q r h]
      simp only [most] at h1 ⊢
      omega
    · have h1 := nat_most q (c m f r)
      have h2 := most_nonneg q
      have h3 := most_nonneg (c m f r)
      rw [nat_gt n m q r h]
      simp only [most] at h1 h3 ⊢
      omega
termination_by s t => s.cnt + t.cnt
decreasing_by all_goals simp [cnt] <;> omega

/-- The value is there. -/
theorem slow_pos {k : Nat} (hk : 1 ≤ k) {t : T} (h : t.Nf) (hz : t ≠ z) : 1 ≤ t.slow k := by
  cases t with
  | z => exact absurd rfl hz
  | c n e r =>
    simp only [slow]
    have h1 : 1 ≤ k ^ e.slow k := Nat.one_le_pow _ _ hk
    have h2 : 1 * 1 ≤ n.toNat * k ^ e.slow k := Nat.mul_le_mul (by have := h.1; omega) h1
    omega

/-- Steps keep the value, or make it less by 1. -/
theorem slow_step {k : Nat} (hk : 1 ≤ k) {t : T} (h : t.Nf) : (t.kind = 1 → (t.step k).slow k + 1 = t.slow k) ∧ (t.kind = 2 → (t.step k).slow k = t.slow k) := by
  induction t with
  | z => exact ⟨fun h => by simp [kind] at h, fun h => by simp [kind] at h⟩
  | c n e r ihe ihr =>
    obtain ⟨g1, g2, g3, g4, g5⟩ := h
    cases r with
    | c m f q =>
      rw [show (c n e (c m f q)).step k = c n e ((c m f q).step k) from rfl, show (c n e (c m f q)).kind = (c m f q).kind from rfl]
      obtain ⟨i1, i2⟩ := ihr g4
      refine ⟨fun h => ?_, fun h => ?_⟩
      · have := i1 h
        rw [show (c n e ((c m f q).step k)).slow k = n.toNat * k ^ e.slow k + ((c m f q).step k).slow k from rfl, show (c n e (c m f q)).slow k = n.toNat * k ^ e.slow k + (c m f q).slow k from rfl]
        omega
      · have := i2 h
        rw [show (c n e ((c m f q).step k)).slow k = n.toNat * k ^ e.slow k + ((c m f q).step k).slow k from rfl, show (c n e (c m f q)).slow k = n.toNat * k ^ e.slow k + (c m f q).slow k from rfl]
        omega
    | z =>
      rw [show (c n e z).step k = (if n = 1 then z else c (n - 1) e z).app (tail k e) from rfl, slow_app, kind_c1]
      have hfr : (if n = 1 then z else c (n - 1) e z : T).slow k = (n.toNat - 1) * k ^ e.slow k := by
        split
        · rename_i h1; subst h1; simp [slow]
        · simp only [slow, Nat.add_zero]
          rw [show (n - 1).toNat = n.toNat - 1 by omega]
      have hsp : (c n e z).slow k = (n.toNat - 1) * k ^ e.slow k + k ^ e.slow k := by
        simp only [slow, Nat.add_zero]
        have : n.toNat = (n.toNat - 1) + 1 := by omega
        rw [this, Nat.add_sub_cancel, Nat.succ_mul]
      rw [hfr, hsp]
      refine ⟨fun h => ?_, fun h => ?_⟩
      · have he : e = z := by
          apply cnt_zero
          split at h
          · assumption
          · omega
        subst he
        simp [tail, kind, slow]
      · have hc : e.cnt ≠ 0 := by intro h2; rw [if_pos h2] at h; omega
        obtain ⟨i1, i2⟩ := ihe g3
        have htl : (tail k e).slow k = k ^ e.slow k := by
          unfold tail
          rcases kind_pos hc with h1 | h1
          · simp only [h1, if_neg (show ¬ (1 : Int) = 0 by omega), if_pos, if_neg (show ¬ (k : Int) = 0 by omega)]
            simp only [slow, Nat.add_zero]
            rw [← i1 h1, Nat.pow_succ, Nat.mul_comm]
            rfl
          · simp only [h1, if_neg (show ¬ (2 : Int) = 0 by omega), if_neg (show ¬ (2 : Int) = 1 by omega)]
            simp only [slow, Nat.add_zero]
            rw [i2 h1]
            simp
        rw [htl]

end T
end Go.Proofs.Ytlbaelehmoidpaa

/- StepsD -/
/- Steps down until 0, on trees: how many there are, and how they add up. -/
namespace Go.Proofs.Ytlbaelehmoidpaa
set_option maxRecDepth 100000
namespace T

/-- So many steps lead to 0. -/
inductive Runs (k : Int) : T → Nat → Prop
  | z : Runs k z 0
  | s {t : T} {n : Nat} : t ≠ z → Runs k (t.step k) n → Runs k t (n + 1)

theorem Runs.unique {k : Int} {t : T} {n m : Nat} (h : Runs k t n) (h' : Runs k t m) : n = m := by
  induction h generalizing m with
  | z =>
    cases h' with
    | z => rfl
    | s h1 _ => exact absurd rfl h1
  | s h1 _ ih =>
    cases h' with
    | z => exact absurd rfl h1
    | s _ h2 => rw [ih h2]

/-- Every exponent is greater than this one, but the last one may be the same. -/
def Ge (f : T) : T → Prop
  | z => True
  | c _ e q => (f.cmp e = -1 ∧ Ge f q) ∨ (f = e ∧ q = z)
theorem ge_less {f g : T} (h : g.cmp f = -1) : ∀ {o : T}, Ge f o → Ge g o
  | z, _ => trivial
  | c n e q, h' => by
    rcases h' with ⟨h1, h2⟩ | ⟨rfl, rfl⟩
    · exact .inl ⟨cmp_trans h h1, ge_less h h2⟩
    · exact .inl ⟨h, trivial⟩
def GeB (b o : T) : Prop := ∀ m f r, b = c m f r → Ge f o

theorem nat_zero {s r : T} (hs : s.Pos) (h : nat s r = r) : s = z := by
  cases s with
  | z => rfl
  | c n e q =>
    have h1 := nat_self (s := r) (g := e) (p := q) hs.1
    rw [nat_comm, h, cmp_refl] at h1
    omega
theorem nat_ne {q : T} {m : Int} {f r : T} (hm : 1 ≤ m) : nat q (c m f r) ≠ z := by
  intro h
  have h1 := nat_self (s := q) (g := f) (p := r) hm
  rw [h] at h1
  cases q <;> simp [cmp] at h1

/-- Where the sum and the natural sum are the same, the second one's terms come behind. -/
theorem ge_of {m : Int} {f r : T} (hm : 1 ≤ m) : ∀ {o : T}, o.Pos → add o (c m f r) = nat o (c m f r) → Ge f o
  | z, _, _ => trivial
  | c n e q, ho, h => by
    rcases cmp_vals e f with h1 | h1 | h1
    · rw [add_lt n m q r h1, nat_lt n m q r h1] at h
      injection h with _ _ h2
      exact absurd (nat_zero ho h2.symm) (by simp)
    · have h3 := cmp_eq h1
      rw [add_eq n m q r h1, nat_eq n m q r h1] at h
      injection h with _ _ h2
      exact .inr ⟨h3.symm, nat_zero ho.2 h2.symm⟩
    · rw [add_gt n m q r h1, nat_gt n m q r h1] at h
      injection h with _ _ h2
      exact .inl ⟨by have := cmp_swap e f; omega, ge_of hm ho.2 h2⟩

theorem step_c (k n : Int) (e : T) {x : T} (h : x ≠ z) : (c n e x).step k = c n e (x.step k) := by
  cases x with
  | z => exact absurd rfl h
  | c _ _ _ => rfl
theorem step_end (k n : Int) (e : T) : (c n e z).step k = (if n = 1 then z else c (n - 1) e z).app (tail k e) := rfl
theorem tail_form (k : Int) (f : T) : tail k f = z ∨ ∃ m, tail k f = c m (f.step k) z ∧ (f.step k).cmp f = -1 ∧ (0 ≤ k → 1 ≤ m) := by
  unfold tail
  by_cases h0 : f.kind = 0
  · rw [if_pos h0]; exact .inl rfl
  · have hf : f ≠ z := by rintro rfl; exact h0 rfl
    rw [if_neg h0]
    split
    · split
      · exact .inl rfl
      · exact .inr ⟨k, rfl, step_lt k hf, fun h => by omega⟩
    · exact .inr ⟨1, rfl, step_lt k hf, fun h => by omega⟩
theorem step_first (k m : Int) (f r : T) : (c m f r).step k = z ∨ ∃ m' f' r', (c m f r).step k = c m' f' r' ∧ (f' = f ∨ f'.cmp f = -1) := by
  cases r with
  | c m' f' r' => exact .inr ⟨m, f, _, rfl, .inl rfl⟩
  | z =>
    rw [step_end]
    split
    · rcases tail_form k f with h | ⟨x, h, h2, _⟩
      · rw [h]; exact .inl rfl
      · rw [h]; exact .inr ⟨x, _, _, rfl, .inr h2⟩
    · exact .inr ⟨_, f, _, rfl, .inl rfl⟩
theorem geB_step {k : Int} {b o : T} (h : GeB b o) (hb : b ≠ z) : GeB (b.step k) o := by
  cases b with
  | z => exact absurd rfl hb
  | c m f r =>
    intro m1 f1 r1 h1
    have h2 := h m f r rfl
    rcases step_first k m f r with h3 | ⟨m', f', r', h3, h4⟩
    · rw [h3] at h1; cases h1
    · rw [h3] at h1
      injection h1 with _ h5 _
      subst h5
      rcases h4 with rfl | h4
      · exact h2
      · exact ge_less h4 h2
theorem pos_app {d u : T} (h : d.Pos) (h' : u.Pos) : (d.app u).Pos := by
  induction d with
  | z => exact h'
  | c n e r _ ih => exact ⟨h.1, ih h.2⟩
theorem step_pos {k : Int} (hk : 0 ≤ k) {t : T} (h : t.Pos) : (t.step k).Pos := by
  induction t with
  | z => trivial
  | c n e r _ ih =>
    cases r with
    | c m f q => exact ⟨h.1, ih h.2⟩
    | z =>
      rw [step_end]
      refine pos_app ?_ ?_
      · split
        · trivial
        · have := h.1; exact ⟨by omega, trivial⟩
      · rcases tail_form k e with h2 | ⟨x, h2, _, h3⟩
        · rw [h2]; trivial
        · rw [h2]; exact ⟨h3 hk, trivial⟩

theorem nat_step (k : Int) {m : Int} {f r : T} (hm : 1 ≤ m) : ∀ {o : T}, o.Pos → Ge f o → (nat o (c m f r)).step k = nat o ((c m f r).step k)
  | z, _, _ => by rw [z_nat, z_nat]
  | c n e q, ho, h => by
    rcases h with ⟨h1, h2⟩ | ⟨rfl, rfl⟩
    · rw [nat_gt n m q r (by have := cmp_swap f e; omega), step_c k n e (nat_ne hm), nat_step k hm ho.2 h2]
      rcases step_first k m f r with h3 | ⟨m', f', r', h3, h4⟩
      · rw [h3, nat_z, nat_z]
      · rw [h3, nat_gt]
        rcases h4 with rfl | h4
        · have := cmp_swap f' e; omega
        · have h5 := cmp_trans h4 h1
          have := cmp_swap f' e
          omega
    · rw [nat_eq n m z r (cmp_refl f), z_nat]
      have hn := ho.1
      cases r with
      | c m' f' r' =>
        rw [step_c k _ _ (by simp), step_c k m f (by simp), nat_eq n m z _ (cmp_refl f), z_nat]
      | z =>
        rw [step_end, step_end, if_neg (by omega)]
        by_cases h1 : m = 1
        · subst h1
          rw [if_pos rfl, show n + 1 - 1 = n by omega]
          rcases tail_form k f with h2 | ⟨x, h2, h3, _⟩
          · rw [h2]; rw [show (z : T).app z = z from rfl, nat_z]; rfl
          · rw [h2, show (z : T).app (c x (f.step k) z) = c x (f.step k) z from rfl, nat_gt n x z z (by have := cmp_swap (f.step k) f; omega), z_nat]; rfl
        · rw [if_neg h1]
          simp only [app]
          rw [nat_eq n (m - 1) z _ (cmp_refl f), z_nat, show n + m - 1 = n + (m - 1) by omega]

/-- Steps add up. -/
theorem Runs.nat {k : Int} (hk : 0 ≤ k) {b o : T} {p s : Nat} (hb : Runs k b p) (ho : Runs k o s) (pb : b.Pos) (po : o.Pos) (h : GeB b o) : Runs k (T.nat o b) (s + p) := by
  induction hb with
  | z => rw [nat_z]; exact ho
  | @s b n h1 h2 ih =>
    cases b with
    | z => exact absurd rfl h1
    | c m f r =>
      refine .s (nat_ne pb.1) ?_
      rw [nat_step k pb.1 po (h m f r rfl)]
      exact ih (step_pos hk pb) (geB_step h h1)

/-- StepsDown: at most so many steps. -/
noncomputable def down (k : Int) : Nat → T → Option (Nat × Nat)
  | _, z => some (0, 0)
  | 0, c _ _ _ => none
  | g + 1, c n e r => if vldB ((c n e r).step k).enc = true then (down k g ((c n e r).step k)).map (fun p => (p.1 + 1, p.2 + if (c n e r).kind = 1 then 1 else 0)) else none
theorem down_z (k : Int) (g : Nat) : down k g z = some (0, 0) := by cases g <;> rfl
theorem down_s (k : Int) (g : Nat) {t : T} (h : t ≠ z) : down k (g + 1) t = if vldB (t.step k).enc = true then (down k g (t.step k)).map (fun p => (p.1 + 1, p.2 + if t.kind = 1 then 1 else 0)) else none := by
  cases t with
  | z => exact absurd rfl h
  | c n e r => rfl
theorem down_0 (k : Int) {t : T} (h : t ≠ z) : down k 0 t = none := by
  cases t with
  | z => exact absurd rfl h
  | c n e r => rfl
theorem nf_enc {t : T} (h : vldB t.enc = true) : t.Nf := by have := nf_of h; rwa [of_enc] at this

theorem down_some {k : Int} {g : Nat} {t : T} {p : Nat × Nat} (h : down k g t = some p) : Runs k t p.1 ∧ p.2 ≤ p.1 ∧ p.1 ≤ g := by
  induction g generalizing t p with
  | zero =>
    cases t with
    | z => rw [down_z] at h; injection h with h; subst h; exact ⟨.z, Nat.le_refl _, Nat.le_refl _⟩
    | c n e r => rw [down_0 k (by simp)] at h; cases h
  | succ g ih =>
    cases t with
    | z => rw [down_z] at h; injection h with h; subst h; exact ⟨.z, Nat.le_refl _, Nat.zero_le _⟩
    | c n e r =>
      rw [down_s k g (by simp)] at h
      split at h
      · cases hd : down k g ((c n e r).step k) with
        | none => rw [hd] at h; cases h
        | some q =>
          rw [hd] at h
          simp only [Option.map_some, Option.some.injEq] at h
          obtain ⟨i1, i2, i3⟩ := ih hd
          subst h
          refine ⟨.s (by simp) i1, ?_, ?_⟩
          · dsimp only; split <;> omega
          · dsimp only; omega
      · cases h
theorem down_slow {k : Nat} (hk : 1 ≤ k) {g : Nat} {t : T} {p : Nat × Nat} (ht : t.Nf) (h : down k g t = some p) : t.slow k = p.2 := by
  induction g generalizing t p with
  | zero =>
    cases t with
    | z => rw [down_z] at h; injection h with h; subst h; rfl
    | c n e r => rw [down_0 k (by simp)] at h; cases h
  | succ g ih =>
    cases t with
    | z => rw [down_z] at h; injection h with h; subst h; rfl
    | c n e r =>
      rw [down_s k g (by simp)] at h
      split at h
      · rename_i hv
        cases hd : down k g ((c n e r).step k) with
        | none => rw [hd] at h; cases h
        | some q =>
          rw [hd] at h
          simp only [Option.map_some, Option.some.injEq] at h
          have i1 := ih (nf_enc hv) hd
          obtain ⟨j1, j2⟩ := slow_step hk ht
          subst h
          dsimp only
          rcases kind_vals (c n e r) with ⟨_, h2⟩ | ⟨h2 | h2, _⟩
          · cases h2
          · have := j1 h2; rw [if_pos h2]; omega
          · have := j2 h2; rw [if_neg (by omega)]; omega
      · cases h

noncomputable def downP (xs : List Int) (n : Int) : Option (Nat × Nat) := if vldB xs = true ∧ 0 ≤ n ∧ n ≤ 99 then down n 3000 (of xs) else none
noncomputable def downS (xs : List Int) (n : Int) : Int := match downP xs n with | some p => (p.1 : Int) | none => -1
noncomputable def downO (xs : List Int) (n : Int) : Int := match downP xs n with | some p => (p.2 : Int) | none => -1

/-- OrdFall. -/
noncomputable def fall : List Int → T → Option (List T)
  | _, z => some []
  | [], c _ _ _ => some []
  | k :: ks, c n e r => if vldB ((c n e r).step k).enc = true then (fall ks ((c n e r).step k)).map (fun l => (c n e r).step k :: l) else none
theorem fall_z (ks : List Int) : fall ks z = some [] := by cases ks <;> rfl
theorem fall_nil (t : T) : fall [] t = some [] := by cases t <;> rfl
theorem fall_s (k : Int) (ks : List Int) {t : T} (h : t ≠ z) : fall (k :: ks) t = if vldB (t.step k).enc = true then (fall ks (t.step k)).map (fun l => t.step k :: l) else none := by
  cases t with
  | z => exact absurd rfl h
  | c n e r => rfl

end T
end Go.Proofs.Ytlbaelehmoidpaa

/- StepsL -/
/- What the laws of the third chapter say, on rows. -/
namespace Go.Proofs.Ytlbaelehmoidpaa
set_option maxRecDepth 100000
namespace T

theorem mostRow_bad {xs : List Int} (h : vldB xs = false) : mostRow xs = -1 := by rw [mostRow, if_neg (by rw [h]; decide)]
theorem mostRow_val {xs : List Int} (h : vldB xs = true) : mostRow xs = (of xs).most := by rw [mostRow, if_pos h]
theorem mostRow_ok {xs : List Int} (h : vldB xs = true) : 0 ≤ mostRow xs ∧ mostRow xs ≤ 9999 := by
  rw [mostRow_val h]
  exact ⟨most_nonneg _, most_le (nf_of h)⟩
theorem mostRow_bnd (xs : List Int) : -1 ≤ mostRow xs ∧ mostRow xs ≤ 9999 := by
  cases h : vldB xs with
  | false => rw [mostRow_bad h]; omega
  | true => have := mostRow_ok h; omega
theorem mostRow_cases {xs : List Int} (h : vldB xs = true) : (xs = [0] ∧ mostRow xs = 0) ∨ ∃ k m ys, xs = k :: m :: ys ∧ 1 ≤ ys.length ∧ 1 ≤ mostRow xs ∧ m ≤ mostRow xs := by
  have h1 := mostRow_val h
  have h2 := nf_of h
  have h3 := enc_of h
  cases ht : of xs with
  | z =>
    rw [ht] at h1 h3
    exact .inl ⟨h3.symm, h1⟩
  | c n e r =>
    rw [ht] at h1 h2 h3
    have h4 := h2.1
    refine .inr ⟨((c n e r).cnt : Int), n, e.enc ++ r.body, by rw [← h3]; simp [enc, body], by simp [enc], ?_, ?_⟩
    · rw [h1]; simp only [most]; omega
    · rw [h1]; simp only [most]; omega
theorem mostRow_nat {xs zs : List Int} (h : natOk xs zs = true) : mostRow (natRow xs zs) ≤ mostRow xs + mostRow zs := by
  obtain ⟨h1, h2, h3, h4⟩ := natOk_true h
  rw [mostRow_val h1, mostRow_val h2, mostRow_val h3, h4]
  exact nat_most _ _

theorem stepOk_true {xs : List Int} {n : Int} (h : stepOk xs n = true) : vldB xs = true ∧ 0 ≤ n ∧ n ≤ 99 ∧ vldB (stepRow xs n) = true ∧ of (stepRow xs n) = (of xs).step n := by
  have h0 := h
  rw [stepOk, Bool.and_eq_true, Bool.and_eq_true, decide_eq_true_eq] at h
  obtain ⟨h1, ⟨h2, h3⟩, h4⟩ := h
  have h5 : stepRow xs n = ((of xs).step n).enc := by rw [stepRow, if_pos ⟨h1, h2, h3⟩, fit, if_pos h4]
  exact ⟨h1, h2, h3, by rw [h5]; exact h4, by rw [h5, of_enc]⟩
theorem stepOk_false {xs : List Int} {n : Int} (h : stepOk xs n = false) : stepRow xs n = [] := by
  rw [stepRow]
  split
  · rename_i h2
    rw [stepOk, h2.1, decide_eq_true h2.2] at h
    rw [fit, if_neg]
    intro h3
    rw [h3] at h
    cases h
  · rfl
theorem stepRow_zero {n : Int} (h : stepOk [0] n = true) : stepRow [0] n = [0] := by
  obtain ⟨h1, h2, h3, h4, h5⟩ := stepOk_true h
  rw [show ([0] : List Int) = (z : T).enc from rfl, of_enc] at h5
  rw [← enc_of h4]
  rw [show ([0] : List Int) = (z : T).enc from rfl, h5]
  rfl
theorem of_ne {xs : List Int} (h : vldB xs = true) (hz : xs ≠ [0]) : of xs ≠ z := by
  intro h1
  exact hz (by rw [← enc_of h, h1]; rfl)
theorem stepRow_lt {xs : List Int} {n : Int} (h : stepOk xs n = true) (hz : xs ≠ [0]) : cmpRow (stepRow xs n) xs = -1 := by
  obtain ⟨h1, h2, h3, h4, h5⟩ := stepOk_true h
  rw [cmpRow_val h4 h1, h5]
  exact step_lt n (of_ne h1 hz)
theorem kindRow_val {xs : List Int} (h : vldB xs = true) : kindRow xs = (of xs).kind := by rw [kindRow, if_pos h]
theorem stepRow_mono {xs : List Int} {n : Int} (h : stepOk xs n = true) (h' : stepOk xs (n + 1) = true) (hk : kindRow xs = 2) : cmpRow (stepRow xs n) (stepRow xs (n + 1)) = -1 := by
  obtain ⟨h1, h2, h3, h4, h5⟩ := stepOk_true h
  obtain ⟨_, _, _, k4, k5⟩ := stepOk_true h'
  rw [cmpRow_val h4 k4, h5, k5]
  exact step_mono h2 (by rw [← kindRow_val h1]; exact hk)
theorem stepRow_over {xs zs : List Int} {n : Int} (h : stepOk xs n = true) (hk : kindRow xs = 2) (hz : vldB zs = true) (hm : mostRow zs < n) (hc : cmpRow zs xs = -1) : cmpRow zs (stepRow xs n) = -1 := by
  obtain ⟨h1, h2, h3, h4, h5⟩ := stepOk_true h
  rw [cmpRow_val hz h1] at hc
  rw [cmpRow_val hz h4, h5]
  have h6 := mostRow_ok hz
  rw [mostRow_val hz] at hm h6
  exact step_over (by omega) (nf_of h1) (by rw [← kindRow_val h1]; exact hk) _ (nf_of hz) hm hc

/-- SlowValue, where there is one. -/
theorem slowRow_vals (xs : List Int) (n : Int) : slowRow xs n = -1 ∨ 0 ≤ slowRow xs n ∧ slowRow xs n ≤ 1000000000 := by
  rw [slowRow]
  split
  · rw [slowI]
    split
    · right; omega
    · left; rfl
  · left; rfl
theorem slowRow_some {xs : List Int} {n : Int} (h : 0 ≤ slowRow xs n) : vldB xs = true ∧ 1 ≤ n ∧ n ≤ 99 ∧ (of xs).slow n.toNat ≤ 1000000000 ∧ slowRow xs n = ((of xs).slow n.toNat : Int) := by
  rw [slowRow] at h ⊢
  split at h
  · rename_i h2
    rw [if_pos h2]
    rw [slowI] at h ⊢
    split at h
    · rename_i h3
      rw [if_pos h3]
      exact ⟨h2.1, h2.2.1, h2.2.2, h3, rfl⟩
    · omega
  · omega
theorem slowRow_kind {xs : List Int} {n : Int} (h : 0 ≤ slowRow xs n) : (kindRow xs = 0 ∧ slowRow xs n = 0) ∨ ((kindRow xs = 1 ∨ kindRow xs = 2) ∧ 1 ≤ slowRow xs n) := by
  obtain ⟨h1, h2, h3, h4, h5⟩ := slowRow_some h
  rw [kindRow_val h1, h5]
  rcases kind_vals (of xs) with ⟨k1, k2⟩ | ⟨k1, k2⟩
  · left; rw [k2]; exact ⟨rfl, rfl⟩
  · right
    have h6 := slow_pos (k := n.toNat) (by omega) (nf_of h1) k2
    exact ⟨k1, by omega⟩
theorem slowRow_step {xs : List Int} {n : Int} (h : 0 ≤ slowRow xs n) (ho : stepOk xs n = true) : (kindRow xs = 1 → slowRow (stepRow xs n) n = slowRow xs n - 1) ∧ (kindRow xs = 2 → slowRow (stepRow xs n) n = slowRow xs n) := by
  obtain ⟨h1, h2, h3, h4, h5⟩ := slowRow_some h
  obtain ⟨_, _, _, k4, k5⟩ := stepOk_true ho
  have hn : ((n.toNat : Nat) : Int) = n := by omega
  obtain ⟨j1, j2⟩ := slow_step (k := n.toNat) (by omega) (nf_of h1)
  rw [hn] at j1 j2
  rw [kindRow_val h1, h5]
  refine ⟨fun hk => ?_, fun hk => ?_⟩
  · have := j1 hk
    rw [slowRow, if_pos ⟨k4, h2, h3⟩, k5, slowI, if_pos (by omega)]
    omega
  · have := j2 hk
    rw [slowRow, if_pos ⟨k4, h2, h3⟩, k5, slowI, if_pos (by omega)]
    omega

end T
end Go.Proofs.Ytlbaelehmoidpaa

/- HydOM -/
/- Cutting the last head of an ordinal's hydra is a step down. -/
namespace Go.Proofs.Ytlbaelehmoidpaa
set_option maxRecDepth 100000
namespace T
theorem nat_front {n : Int} {e r : T} (h : ok (some e) r) : nat (c n e z) r = c n e r := by
  cases r with
  | z => rw [nat_z]
  | c m f q =>
    have h1 := ok_c.1 h
    have h2 := cmp_swap f e
    rw [nat_gt n m z q (by omega), z_nat]
theorem ord_hyd : ∀ t : T, t.Nf → H.ord (hyd t) = t := by
  intro t
  induction t with
  | z => intro _; rfl
  | c n e r ihe ihr =>
    rintro ⟨h1, h2, h3, h4, h5⟩
    obtain ⟨m, hm⟩ : ∃ m, n.toNat = m + 1 := ⟨n.toNat - 1, by omega⟩
    rw [hyd, hm, H.ord_rep, ihe h3, ihr h4, show (m : Int) + 1 = n by omega, nat_front h5]
theorem hyd_ne {t : T} (h : t.Nf) (hz : t ≠ z) : hyd t ≠ .z := by
  intro e
  have := ord_hyd t h
  rw [e] at this
  exact hz this.symm
end T
namespace H
theorem cut_rep (n : Nat) (k r : H) : ∀ (m : Nat) (h : Int), (m : Int) * heads k ≤ h → cut n (rep m k r) h = (rep m k (cut n r (h - m * heads k)).1, (cut n r (h - m * heads k)).2) := by
  intro m
  induction m with
  | zero => intro h _; simp [rep]
  | succ m ih =>
    intro h hh
    have hp := heads_pos k
    have e1 : ((m + 1 : Nat) : Int) * heads k = (m : Int) * heads k + heads k := by push_cast; rw [Int.add_mul, Int.one_mul]
    have h0 : 0 ≤ (m : Int) * heads k := Int.mul_nonneg (by omega) (by omega)
    rw [e1] at hh ⊢
    rw [rep, cut_past (.inr (by omega)), ih (h - heads k) (by omega), rep, show h - heads k - (m : Int) * heads k = h - ((m : Int) * heads k + heads k) by omega]
theorem noughts_rep (k r : H) : ∀ m : Nat, (noughts (rep m k r).body : Int) = (m : Int) * heads k + noughts r.body := by
  intro m
  induction m with
  | zero => simp [rep]
  | succ m ih =>
    rw [rep, body_c, noughts_app]
    push_cast
    rw [ih, Int.add_mul, Int.one_mul]
    unfold heads; omega
theorem heads_body {k : H} (h : k ≠ z) : heads k = (noughts k.body : Int) := by
  unfold heads
  rw [enc, noughts, if_neg (fun e => h (cnt_zero (by omega)))]; simp
end H
namespace T

theorem cut_last (n : Nat) (hn : 1 ≤ n) : ∀ t : T, t.Nf → t ≠ z → (t.step n).Nf →
    H.ord (H.cut n (hyd t) (H.noughts (hyd t).body - 1)).1 = t.step n ∧ (H.cut n (hyd t) (H.noughts (hyd t).body - 1)).2 = decide (t.kind = 1) := by
  intro t
  induction t with
  | z => intro _ h; exact absurd rfl h
  | c m e r ihe ihr =>
    rintro ⟨h1, h2, h3, h4, h5⟩ _ hs
    obtain ⟨M, hM⟩ : ∃ M, m.toNat = M + 1 := ⟨m.toNat - 1, by omega⟩
    have hm : (M : Int) + 1 = m := by omega
    rw [hyd, hM]
    cases r with
    | c m' f q =>
      have hst : (c m e (c m' f q)).step n = c m e ((c m' f q).step n) := rfl
      rw [hst] at hs ⊢
      obtain ⟨_, _, _, s4, s5⟩ := hs
      obtain ⟨i1, i2⟩ := ihr h4 (by simp) s4
      have hz := hyd_ne h4 (by simp)
      have hb := H.noughts_body hz
      rw [H.noughts_rep, H.cut_rep _ _ _ _ _ (by omega), show (((M + 1 : Nat) : Int) * H.heads (hyd e) + (H.noughts (hyd (c m' f q)).body : Int) - 1 - ((M + 1 : Nat) : Int) * H.heads (hyd e)) = (H.noughts (hyd (c m' f q)).body : Int) - 1 by omega]
      refine ⟨?_, i2⟩
      simp only []
      rw [H.ord_rep, ord_hyd e h3, i1, hm, nat_front s5]
    | z =>
      have hhz : hyd z = .z := rfl
      have hp := H.heads_pos (hyd e)
      rw [hhz, H.noughts_rep, ← H.rep_snoc]
      have e0 : ((M + 1 : Nat) : Int) * H.heads (hyd e) = (M : Int) * H.heads (hyd e) + H.heads (hyd e) := by push_cast; rw [Int.add_mul, Int.one_mul]
      have e1 : (H.noughts (H.z).body : Int) = 0 := rfl
      rw [e0, e1, H.cut_rep _ _ _ _ _ (by omega), show (M : Int) * H.heads (hyd e) + H.heads (hyd e) + 0 - 1 - (M : Int) * H.heads (hyd e) = H.heads (hyd e) - 1 by omega]
      by_cases he : e = z
      · subst he
        have hz1 : hyd z = .z := rfl
        have hp0 := H.heads_pos .z
        rw [hz1, H.cut_head (by omega) (by omega)]
        refine ⟨?_, by simp [kind, cnt]⟩
        simp only [step, kind, if_true]
        cases M with
        | zero => rw [if_pos (by omega)]; rfl
        | succ p =>
          rw [if_neg (by omega), H.ord_rep]
          have e2 : H.ord .z = z := rfl
          rw [e2, nat_z, show (p : Int) + 1 = m - 1 by omega]; rfl
      · have hkn := hyd_ne h3 he
        have hec : e.cnt ≠ 0 := fun h => he (by cases e with | z => rfl | c _ _ _ => simp [cnt] at h)
        have hkp := kind_pos hec
        have hst : (c m e z).step n = (if m = 1 then z else c (m - 1) e z).app (tail n e) := rfl
        have htl : tail n e = c (if e.kind = 1 then (n : Int) else 1) (e.step n) z := by
          rw [tail, if_neg (by omega)]
          by_cases hk1 : e.kind = 1
          · rw [if_pos hk1, if_neg (by omega), if_pos hk1]
          · rw [if_neg hk1, if_neg hk1]
        rw [hst, htl] at hs
        have hsn := (nf_app hs).2.2.2.1
        obtain ⟨i1, i2⟩ := ihe h3 he hsn
        rw [H.cut_in (by omega) (by omega) hkn, H.heads_body hkn, i2]
        have hkd : (c m e z).kind = 2 := by rw [kind, if_neg hec]
        refine ⟨?_, by rw [hkd]; rfl⟩
        obtain ⟨k', hk'⟩ : ∃ k', k' = (H.cut n (hyd e) (H.noughts (hyd e).body - 1)).1 := ⟨_, rfl⟩
        rw [← hk'] at i1 ⊢
        have hX : H.ord (if decide (e.kind = 1) = true then H.rep n k' .z else .c k' .z) = c (if e.kind = 1 then (n : Int) else 1) (e.step n) z := by
          by_cases hk1 : e.kind = 1
          · rw [if_pos (by simpa using hk1), if_pos hk1]
            obtain ⟨p, rfl⟩ : ∃ p, n = p + 1 := ⟨n - 1, by omega⟩
            rw [H.ord_rep, i1]
            have e2 : H.ord .z = z := rfl
            rw [e2, nat_z]; push_cast; rfl
          · rw [if_neg (by simpa using hk1), if_neg hk1, H.ord_c, i1]
            have e2 : H.ord .z = z := rfl
            rw [e2, nat_z]
        rw [hst, htl]
        have hlt : (e.step n).cmp e = -1 := step_lt n he
        cases M with
        | zero => rw [if_pos (show m = 1 by omega)]; exact hX
        | succ p =>
          rw [if_neg (show ¬ m = 1 by omega)]
          simp only []
          rw [H.ord_rep, hX, ord_hyd e h3, nat_front (ok_c.2 hlt), show (p : Int) + 1 = m - 1 by omega]
          rfl

theorem hydRow_val {xs : List Int} (hv : vldB xs = true) (ho : hydOk (of xs) = true) : hydRow xs = (hyd (of xs)).enc := by
  rw [hydRow, if_pos hv, hydFit_yes ho]

/-- What the law of HydraOf says, on rows. -/
theorem of_facts {xs : List Int} {n : Int} (hq : hydRowOk xs = true) (hn : 1 ≤ n ∧ n ≤ 3) : vldB xs = true ∧ H.hvB (hydRow xs) = true ∧ H.ordRowOk (hydRow xs) = true ∧ H.ordRow (hydRow xs) = xs ∧
    (stepOk xs n = true → H.cutOkB (hydRow xs) (H.headsRow (hydRow xs) - 1) n = true → H.ordRowOk (H.cutRow (hydRow xs) (H.headsRow (hydRow xs) - 1) n) = true →
      H.ordRow (H.cutRow (hydRow xs) (H.headsRow (hydRow xs) - 1) n) = stepRow xs n) ∧
    (H.cutOkB (hydRow xs) (H.headsRow (hydRow xs) - 1) n = false → xs.length = 1 ∨ 1 < n) := by
  rw [hydRowOk, Bool.and_eq_true] at hq
  obtain ⟨hv, ho⟩ := hq
  have hrow := hydRow_val hv ho
  have h60 := hydOk_true.1 ho
  have hnf := nf_of hv
  have henc := enc_of hv
  obtain ⟨t, ht⟩ : ∃ t, t = of xs := ⟨_, rfl⟩
  rw [← ht] at hrow h60 hnf henc
  rw [hrow]
  have hhv : H.hvB (hyd t).enc = true := H.hv_mk h60
  have hof : H.of (hyd t).enc = hyd t := H.of_enc _
  have hhd : H.headsRow (hyd t).enc = (H.noughts (hyd t).body : Int) := by rw [H.headsRow, if_pos hhv]; rfl
  have hord := ord_hyd t hnf
  have hvt : vldB t.enc = true := by rw [henc]; exact hv
  refine ⟨hv, hhv, ?_, ?_, ?_, ?_⟩
  · rw [H.ordRowOk, hhv, hof, hord, hvt]; rfl
  · rw [H.ordRow, if_pos hhv, hof, hord, fit, if_pos hvt, henc]
  · intro hp hc hk
    obtain ⟨_, _, _, s1, s2⟩ := stepOk_true hp
    rw [← ht] at s2
    have hsn : (t.step n).Nf := by rw [← s2]; exact nf_of s1
    have hsr : stepRow xs n = (t.step n).enc := by rw [← s2]; exact (enc_of s1).symm
    have hhc := H.cut_hv hc
    have hcr : H.cutRow (hyd t).enc (H.headsRow (hyd t).enc - 1) n = (H.cut n.toNat (H.of (hyd t).enc) (H.headsRow (hyd t).enc - 1)).1.enc := if_pos hc
    rw [hof] at hcr
    have htz : t ≠ z := by
      intro e
      have h1 := (H.cut_facts hc).1
      rw [H.cutOkB, Bool.and_eq_true, Bool.and_eq_true] at hc
      have h2 := (of_decide_eq_true hc.1.2).2.2.1
      rw [hhd, e] at h2
      have h3 : (H.noughts (hyd z).body : Int) = 0 := rfl
      omega
    obtain ⟨N, rfl⟩ := Int.eq_ofNat_of_zero_le (show 0 ≤ n by omega)
    have hcl := (cut_last N (by omega) t hnf htz hsn).1
    rw [hcr] at hhc hk ⊢
    rw [hhd] at hhc hk ⊢
    rw [H.ordRowOk, hhc, H.of_enc] at hk
    rw [H.ordRow, if_pos hhc, H.of_enc]
    have hN : ((N : Nat) : Int).toNat = N := rfl
    rw [hN] at hk ⊢
    rw [hcl] at hk ⊢
    rw [fit, if_pos (by simpa using hk), hsr]
  · intro hc
    by_cases h1 : 1 < n
    · exact .inr h1
    · left
      have hn1 : n = 1 := by omega
      subst hn1
      by_cases htz : t = z
      · rw [← henc, htz]; rfl
      · exfalso
        have hb := H.noughts_body (hyd_ne hnf htz)
        have hl := H.cut_one (hyd t) (H.noughts (hyd t).body - 1) (by omega) (by omega)
        have : H.cutOkB (hyd t).enc (H.headsRow (hyd t).enc - 1) 1 = true := by
          rw [H.cutOkB, hhv, hof, hhd, Bool.true_and, Bool.and_eq_true]
          refine ⟨decide_eq_true ⟨by omega, by omega, by omega, by omega⟩, decide_eq_true ?_⟩
          have e1 : (1 : Int).toNat = 1 := rfl
          rw [e1, H.enc_len]
          rw [H.enc_len] at h60
          omega
        rw [this] at hc
        cases hc
end T
end Go.Proofs.Ytlbaelehmoidpaa

/- AddJ -/
/- The program's OrdAdd. -/
namespace Go.Proofs.Ytlbaelehmoidpaa
set_option maxRecDepth 100000
open Go.RowKit

theorem T.nf_times {t : T} (h : t.Nf) : ∀ x ∈ t.times, 1 ≤ x ∧ x ≤ 9999 := by
  induction t with
  | z => intro x hx; cases hx
  | c n e r _ ih =>
    intro x hx
    rcases List.mem_cons.1 (show x ∈ n :: r.times from hx) with rfl | hx
    · exact ⟨h.1, h.2.1⟩
    · exact ih h.2.2.2.1 x hx

theorem Tz.of_own {w : World} {B g n c : Nat} {t : T} {cs : List Value} (h : w.ownsRow B 57 2 (.slice (some ⟨g, 0, none⟩) n c) n cs) (hT : TC w t cs) (hn : n = t.cnt) : Tz w g n c t cs := by
  refine ⟨hn, ?_, ?_, hT, (h.lt g rfl).2, fun j hj => h.cellAt j (by omega)⟩
  · rcases h.2 with ⟨h1, _⟩ | ⟨_, _, _, h0, _, _, h3, _⟩
    · cases h1
    · cases h0; exact h3
  · rcases h.2 with ⟨h1, _⟩ | ⟨_, _, _, h0, _, _, _, h4, _⟩
    · cases h1
    · cases h0; exact h4

end Go.Proofs.Ytlbaelehmoidpaa

/- NatI -/
/- The program's natural sums. -/
namespace Go.Proofs.Ytlbaelehmoidpaa
set_option maxRecDepth 100000
open Go.RowKit

/-- A slice of terms, wherever in its block. -/
def Rw (w : World) (b o n c : Nat) (t : T) (l : List Value) : Prop :=
  n = t.cnt ∧ n ≤ c ∧ c ≤ maxLen ∧ TC w t l ∧ b < w.heap.size ∧ ∀ j u, l[j]? = some u → w.cell? ⟨b, o + j, none⟩ = some u

theorem Rw.below {w w' : World} {b o n c : Nat} {t : T} {l : List Value} (h : Rw w b o n c t l) (hb : Below w.heap.size w w') : Rw w' b o n c t l := by
  obtain ⟨h1, h2, h3, h4, h5, h6⟩ := h
  exact ⟨h1, h2, h3, h4.below hb, Nat.lt_of_lt_of_le h5 hb.size, fun j u hj => (hb.cell (p := ⟨b, o + j, none⟩) h5).trans (h6 j u hj)⟩

theorem Rw.of_tz {w : World} {g n c : Nat} {t : T} {cs : List Value} (h : Tz w g n c t cs) : Rw w g 0 n c t cs := by
  obtain ⟨h1, h2, h3, h4, h5, h6⟩ := h
  refine ⟨h1, h2, h3, h4, h5, fun j u hj => ?_⟩
  have hl := h4.length
  have hjl := (List.getElem?_eq_some_iff.1 hj).1
  rw [Nat.zero_add, h6 j (by omega)]
  exact hj

theorem Rw.rd {w : World} {b o n c : Nat} {t : T} {l : List Value} (h : Rw w b o n c t l) : Rd w (some ⟨b, o, none⟩) n c l := by
  obtain ⟨h1, h2, h3, h4, h5, h6⟩ := h
  have hl := h4.length
  exact ⟨by omega, h4.one, .inr ⟨b, o, rfl, fun j u hj => by rw [Addr.add_lit]; exact h6 j u hj⟩⟩

/-- The address of all but the first one: the same, where there is no room. -/
theorem Rw.tail {w : World} {b o n c : Nat} {m : Int} {e r : T} {l : List Value} (h : Rw w b o n c (.c m e r) l) : ∃ b' o', (if c = 1 then (some ⟨b, o, none⟩ : Option Addr) else some ⟨b, o + 2, none⟩) = some ⟨b', o', none⟩ ∧ Rw w b' o' (n - 1) (c - 1) r (l.drop 2) := by
  obtain ⟨h1, h2, h3, h4, h5, h6⟩ := h
  obtain ⟨be, oe, ce, l', rfl, _, _, _, htr⟩ := h4
  have hl := htr.length
  simp only [T.cnt] at h1
  by_cases hc : c = 1
  · refine ⟨b, o, by rw [if_pos hc], by omega, by omega, by omega, by simpa using htr, h5, fun j u hj => ?_⟩
    simp only [List.drop_succ_cons, List.drop_zero] at hj
    have := (List.getElem?_eq_some_iff.1 hj).1
    omega
  · refine ⟨b, o + 2, by rw [if_neg hc], by omega, by omega, by omega, by simpa using htr, h5, fun j u hj => ?_⟩
    simp only [List.drop_succ_cons, List.drop_zero] at hj
    have := h6 (j + 2) u (by simpa using hj)
    rw [show o + 2 + j = o + (j + 2) by omega]
    exact this

theorem Rd.of_own {w : World} {B n c : Nat} {a : Option Addr} {l : List Value} (h : w.ownsRow B 57 2 (.slice a n c) n l) (h1 : ∀ u ∈ l, u.oneCell' = true) : Rd w a n c l := by
  refine ⟨h.1, h1, ?_⟩
  rcases h.2 with ⟨h2, h3⟩ | ⟨g, cap, cur, h0, _⟩
  · simp only [Value.slice.injEq] at h2
    exact .inl ⟨h2.1, h3, h2.2.2⟩
  · simp only [Value.slice.injEq] at h0
    obtain ⟨rfl, _, rfl⟩ := h0
    refine .inr ⟨g, 0, rfl, fun j u hj => ?_⟩
    have hjl := (List.getElem?_eq_some_iff.1 hj).1
    have := h.1
    rw [Addr.add_lit, Nat.zero_add, h.cellAt j (by omega)]
    exact hj

def NatLoop (w : World) (s t : T) (gk : Nat) (v0 v1 v5 : Value) (wr : World) : Prop :=
  ∃ (p a b : T) (ps l0 l1 : List Value) (b0 o0 b1 o1 n0 n1 k0 k1 np c5 : Nat) (a5 : Option Addr), gk = n0 + n1 ∧ T.nat s t = p.app (T.nat a b) ∧ np = p.cnt ∧ np + n0 + n1 ≤ 2000 ∧
    (∀ x ∈ a.times, -1000000 ≤ x ∧ x ≤ 1000000) ∧ (∀ x ∈ b.times, -1000000 ≤ x ∧ x ≤ 1000000) ∧ a.enc.length ≤ 1000 ∧ b.enc.length ≤ 1000 ∧
    v0 = .slice (some ⟨b0, o0, none⟩) n0 k0 ∧ v1 = .slice (some ⟨b1, o1, none⟩) n1 k1 ∧ v5 = .slice a5 np c5 ∧ Rw w b0 o0 n0 k0 a l0 ∧ Rw w b1 o1 n1 k1 b l1 ∧ b0 < w.heap.size ∧ b1 < w.heap.size ∧
    wr.ownsRow w.heap.size 57 2 v5 np ps ∧ TC w p ps ∧ Below w.heap.size w wr

def NatEnd (w : World) (s t : T) (v0 v1 v5 : Value) (wr : World) : Prop :=
  ∃ (p a b : T) (ps l0 l1 : List Value) (b0 o0 b1 o1 n0 n1 k0 k1 np c5 : Nat) (a5 : Option Addr), T.nat s t = p.app (a.app b) ∧ np = p.cnt ∧ np + n0 + n1 ≤ 2000 ∧
    v0 = .slice (some ⟨b0, o0, none⟩) n0 k0 ∧ v1 = .slice (some ⟨b1, o1, none⟩) n1 k1 ∧ v5 = .slice a5 np c5 ∧ Rw w b0 o0 n0 k0 a l0 ∧ Rw w b1 o1 n1 k1 b l1 ∧
    wr.ownsRow w.heap.size 57 2 v5 np ps ∧ TC w p ps ∧ Below w.heap.size w wr

set_option maxRecDepth 100000 in
set_option maxHeartbeats 4000000 in
theorem mergedTerms_any (g1 n1 c1 g2 n2 c2 : Nat) (s t : T) (cs ds : List Value) (w : World) (h1 : Tz w g1 n1 c1 s cs) (h2 : Tz w g2 n2 c2 t ds) (hl1 : s.enc.length ≤ 1000) (hl2 : t.enc.length ≤ 1000)
    (htm : ∀ x ∈ s.times, -1000000 ≤ x ∧ x ≤ 1000000) (htm2 : ∀ x ∈ t.times, -1000000 ≤ x ∧ x ≤ 1000000) :
    Calls Try.prog 73 #[.slice (some ⟨g1, 0, none⟩) n1 c1, .slice (some ⟨g2, 0, none⟩) n2 c2] w (TmPost w (T.nat s t)) := by
  obtain ⟨i0, hi, hz0, hz1, hz2⟩ := info_parts info_term
  have hn1 : n1 ≤ 1000 := by have h3 := h1.1; have := T.cnt_le s; have := T.enc_len s; omega
  have hn2 : n2 ≤ 1000 := by have h3 := h2.1; have := T.cnt_le t; have := T.enc_len t; omega
  have hst : NatLoop w s t (n1 + n2) (.slice (some ⟨g1, 0, none⟩) n1 c1) (.slice (some ⟨g2, 0, none⟩) n2 c2) (.slice none 0 0) w :=
    ⟨.z, s, t, [], cs, ds, g1, 0, g2, 0, n1, n2, c1, c2, 0, 0, none, rfl, rfl, rfl, by omega, htm, htm2, hl1, hl2, rfl, rfl, rfl, Rw.of_tz h1, Rw.of_tz h2, h1.2.2.2.2.1, h2.2.2.2.2.1, ⟨rfl, .inl ⟨rfl, rfl⟩⟩, rfl, Below.refl _ _⟩
  have Hst := Lib.hid hst
  clear h1 h2 hl1 hl2 htm htm2 hst
  go_enter Try.func73, Try.ntmps73
  go_upto_block 0 with fail
  go_cut [0, 1, 5] (fun v0 v1 v5 wx => NatEnd w s t v0 v1 v5 wx)
  case first =>
    go_wp2_with fail
    go_loopg [0, 1, 5] (n1 + n2) (fun gk v0 v1 v5 wr => NatLoop w s t gk v0 v1 v5 wr)
    case atStart => exact Hst.out
    case round =>
      obtain ⟨p, a, b, ps, l0, l1, b0, o0, b1, o1, n0, n1', k0, k1, np, c5, a5, hgk, hnat, hnp, hsz, htm, htm2, hla, hlb, rfl, rfl, rfl, hA, hB, hb0, hb1, ho, hT, hbw⟩ := hrel
      have HA := Lib.hid hA
      have HB := Lib.hid hB
      have HO := Lib.hid ho
      have HT := Lib.hid hT
      have Hbw := Lib.hid hbw
      have Hnat := Lib.hid hnat
      have Hnp := Lib.hid hnp
      have Hgk := Lib.hid hgk
      have Htm := Lib.hid htm
      have Htm2 := Lib.hid htm2
      have hws := hbw.size
      have hna := hA.1
      have hnb := hB.1
      have hka := hA.2.1
      have hkb := hB.2.1
      by_cases hz : a = .z ∨ b = .z
      · have hfin : NatEnd w s t (.slice (some ⟨b0, o0, none⟩) n0 k0) (.slice (some ⟨b1, o1, none⟩) n1' k1) (.slice a5 np c5) wr :=
          ⟨p, a, b, ps, l0, l1, b0, o0, b1, o1, n0, n1', k0, k1, np, c5, a5, by
            rw [hnat]
            rcases hz with hz | hz
            · rw [hz, T.z_nat]; rfl
            · rw [hz, T.nat_z, T.app_z], hnp, hsz, rfl, rfl, rfl, hA, hB, ho, hT, hbw⟩
        have Hfin := Lib.hid hfin
        have hcase : n0 = 0 ∨ (0 < n0 ∧ n1' = 0) := by
          rcases hz with hz | hz
          · left; rw [hna, hz]; rfl
          · rcases Nat.eq_zero_or_pos n0 with h | h
            · exact .inl h
            · right; exact ⟨h, by rw [hnb, hz]; rfl⟩
        clear hz hfin hA hB ho hT hbw hnat hnp hgk htm htm2 hna hnb
        rcases hcase with h0 | ⟨h0, h1⟩
        · have hd1 : decide ((0 : Int) < (n0 : Int)) = false := by simp; omega
          have hd2 : decide (0 < n0) = false := by simp; omega
          have hd3 : ¬ (0 : Int) < (n0 : Int) := by omega
          have H0 := Lib.hid h0
          clear h0
          go_wp2_with fail
          go_meet
          exact Hfin.out
        · have hd1 : decide ((0 : Int) < (n1' : Int)) = false := by simp; omega
          have hd2 : decide (0 < n1') = false := by simp; omega
          have hd3 : ¬ (0 : Int) < (n1' : Int) := by omega
          have hd4 : (0 : Int) < (n0 : Int) := by omega
          have H1 := Lib.hid h1
          clear h1
          go_wp2_with fail
          go_meet
          exact Hfin.out
      · obtain ⟨n, e, q, ha2⟩ : ∃ n e q, a = .c n e q := by
          cases a with
          | z => exact absurd (.inl rfl) hz
          | c n e q => exact ⟨n, e, q, rfl⟩
        obtain ⟨m, f, r, hb2⟩ : ∃ n e q, b = .c n e q := by
          cases b with
          | z => exact absurd (.inr rfl) hz
          | c n e q => exact ⟨n, e, q, rfl⟩
        subst ha2
        subst hb2
        obtain ⟨be, oe, ce, l0', hl0, hate, hce, hcme, _⟩ := hA.2.2.2.1
        obtain ⟨bf, of, cf, l1', hl1, hatf, hcf, hcmf, _⟩ := hB.2.2.2.1
        have x0 : wr.cell? ⟨b0, o0, none⟩ = some (.int .i64 n) := (hA.below hbw).2.2.2.2.2 0 _ (by rw [hl0]; rfl)
        have x1 : wr.cell? ⟨b0, o0 + 1, none⟩ = some (.slice (some ⟨be, oe, none⟩) e.enc.length ce) := (hA.below hbw).2.2.2.2.2 1 _ (by rw [hl0]; rfl)
        have y0 : wr.cell? ⟨b1, o1, none⟩ = some (.int .i64 m) := (hB.below hbw).2.2.2.2.2 0 _ (by rw [hl1]; rfl)
        have y1 : wr.cell? ⟨b1, o1 + 1, none⟩ = some (.slice (some ⟨bf, of, none⟩) f.enc.length cf) := (hB.below hbw).2.2.2.2.2 1 _ (by rw [hl1]; rfl)
        have hb0r : b0 < wr.heap.size := by omega
        have hb1r : b1 < wr.heap.size := by omega
        have hle : e.enc.length ≤ 1000 := by
          have h1 := T.enc_len (T.c n e q)
          rw [T.body_c] at h1
          simp at h1
          omega
        have hlf : f.enc.length ≤ 1000 := by
          have h1 := T.enc_len (T.c m f r)
          rw [T.body_c] at h1
          simp at h1
          omega
        obtain ⟨ba, oa, hifa, hA'⟩ := hA.tail
        obtain ⟨bb, ob, hifb, hB'⟩ := hB.tail
        have HA' := Lib.hid hA'
        have HB' := Lib.hid hB'
        have Hate := Lib.hid hate
        have Hatf := Lib.hid hatf
        have hp1 : 0 < n0 := by simp [T.cnt] at hna; omega
        have hp2 : 0 < n1' := by simp [T.cnt] at hnb; omega
        have hp3 : (0 : Int) < (n0 : Int) := by omega
        have hp4 : (0 : Int) < (n1' : Int) := by omega
        have hp5 : (1 : Int) ≤ (n0 : Int) := by omega
        have hp6 : (1 : Int) ≤ (n1' : Int) := by omega
        have hp7 : (n0 : Int) ≤ (k0 : Int) := by omega
        have hp8 : (n1' : Int) ≤ (k1 : Int) := by omega
        have hp9 : (1 : Int) ≤ (k0 : Int) := by omega
        have hp10 : (1 : Int) ≤ (k1 : Int) := by omega
        have Hifa := Lib.hid hifa
        have Hifb := Lib.hid hifb
        clear hz hA hB ho hT hbw hnat hnp hgk htm htm2 hna hnb hl0 hl1 hate hatf hA' hB' hifa hifb
        go_upto_region 4 with fail
        obtain ⟨wb, hwb⟩ : ∃ wb, wb = wr.alloc (.cells #[.int .i64 n, .slice (some ⟨be, oe, none⟩) e.enc.length ce] 57) := ⟨_, rfl⟩
        rw [← hwb]
        have hBr : Below wr.heap.size wr wb := by rw [hwb]; exact (Below.refl _ _).alloc (Nat.le_refl _) _
        have hB1 : wr.heap.size < wb.heap.size := by rw [hwb, World.size_alloc]; omega
        have hz0' : wb.cell? ⟨wr.heap.size, 0, none⟩ = some (.int .i64 n) := by rw [hwb, Joins.cell_alloc_mark_at _ _ _ _ _ _ rfl]; rfl
        have hz1' : wb.cell? ⟨wr.heap.size, 1, none⟩ = some (.slice (some ⟨be, oe, none⟩) e.enc.length ce) := by rw [hwb, Joins.cell_alloc_mark_at _ _ _ _ _ _ rfl]; rfl
        have hf0' : wb.frozen? ⟨wr.heap.size, 0, none⟩ = false := by rw [hwb]; exact Joins.unfrozen_of_block (heap_alloc_new wr _) 0
        have ho2 : wb.ownsRow w.heap.size 57 2 (.slice a5 np c5) np ps := by rw [hwb]; exact HO.out.alloc _
        have yb0 : wb.cell? ⟨b1, o1, none⟩ = some (.int .i64 m) := (hBr.cell (p := ⟨b1, o1, none⟩) hb1r).trans y0
        have yb1 : wb.cell? ⟨b1, o1 + 1, none⟩ = some (.slice (some ⟨bf, of, none⟩) f.enc.length cf) := (hBr.cell (p := ⟨b1, o1 + 1, none⟩) hb1r).trans y1
        have HBr := Lib.hid hBr
        have HO2 := Lib.hid ho2
        have HF0 := Lib.hid hf0'
        clear hwb hBr ho2 hf0' x0 x1 y0 y1
        have kc := Lib.hid (compareOrds_any (e.body.length + 1) be oe ce bf of cf e.enc.length f.enc.length e f wb.drew (by omega) rfl rfl (by omega) (by omega) hce hcme hcf hcmf (Hate.out.below (Hbw.out.trans (HBr.out.drew.mono hws)) (Hate.out.lt (T.enc_ne e))) (Hatf.out.below (Hbw.out.trans (HBr.out.drew.mono hws)) (Hatf.out.lt (T.enc_ne f))))
        obtain ⟨cv, hcv⟩ : ∃ cv, cv = e.cmp f := ⟨_, rfl⟩
        rw [← hcv] at kc
        have Hcv := Lib.hid hcv
        clear hcv
        go_wp2_with fail
        go_still_tail 6, (by kernel_rfl)
        change wpList _ _ _ _ _ wb.drew
        go_wp2_with fail
        refine (kc.out).mono ?_
        rintro ee w3 ⟨rfl, hb3⟩
        have hb3' : Below wb.heap.size wb w3 := ((Below.refl wb.heap.size wb).drew).trans hb3
        have Hb3 := Lib.hid hb3'
        have HO3 := Lib.hid (ownsRow_below' HO2.out hb3')
        have Hbr3 := Lib.hid (HBr.out.trans (hb3'.mono HBr.out.size))
        have z0 : w3.cell? ⟨wr.heap.size, 0, none⟩ = some (.int .i64 n) := (hb3'.cell (p := ⟨wr.heap.size, 0, none⟩) hB1).trans hz0'
        have z1 : w3.cell? ⟨wr.heap.size, 1, none⟩ = some (.slice (some ⟨be, oe, none⟩) e.enc.length ce) := (hb3'.cell (p := ⟨wr.heap.size, 1, none⟩) hB1).trans hz1'
        have F0 : w3.frozen? ⟨wr.heap.size, 0, none⟩ = false := (hb3'.frozen (p := ⟨wr.heap.size, 0, none⟩) hB1).trans HF0.out
        have hb1b : b1 < wb.heap.size := by omega
        have u0 : w3.cell? ⟨b1, o1, none⟩ = some (.int .i64 m) := (hb3'.cell (p := ⟨b1, o1, none⟩) hb1b).trans yb0
        have u1 : w3.cell? ⟨b1, o1 + 1, none⟩ = some (.slice (some ⟨bf, of, none⟩) f.enc.length cf) := (hb3'.cell (p := ⟨b1, o1 + 1, none⟩) hb1b).trans yb1
        have hs3 : wr.heap.size < w3.heap.size := by have := hb3'.size; omega
        have hnps : np + n0 + n1' ≤ 2000 := hsz
        clear hb3 hb3' hz0' hz1' yb0 yb1
        rcases T.cmp_vals e f with hv | hv | hv
        · obtain rfl : cv = -1 := by rw [Hcv.out, hv]
          have Hv := Lib.hid hv
          clear hv
          go_wp2_with (first
            | (at_builtin; refine wpList_append_own _ rfl (.tmp 51) (.tmp 55) 54 rfl w.heap.size 57 i0 _ 2 32 Try.underlying54 hi hz0 hz1 hz2 rfl (by decide) _ np ps rfl (HO3.out.alloc _) ⟨w3.heap.size, 0, none⟩ 1 1 [.int .i64 m, .slice (some ⟨bf, of, none⟩) f.enc.length cf] rfl rfl (cell_two_new _ _ _ _) (two_one _ _ rfl rfl) (by unfold maxLen; omega) (by omega) (by simp; omega) ?_; intro v5 w5 ho5 hg5 _))
          all_goals (
            have hb5 : Below w.heap.size w w5 := ((Hbw.out.trans (Hbr3.out.mono hws)).alloc (by omega) _).grown hg5 (by simp; omega) (fun k hk => (HO3.out.lt k hk).1)
            obtain ⟨g5, c5', rfl⟩ := Joins.ownsRow_form ho5 (by omega)
            have hfin : NatLoop w s t (n0 + (n1' - 1)) (.slice (some ⟨b0, o0, none⟩) n0 k0) (.slice (if k1 = 1 then some ⟨b1, o1, none⟩ else some ⟨b1, o1 + 2, none⟩) (n1' - 1) (k1 - 1)) (.slice (some ⟨g5, 0, none⟩) (np + 1) c5') w5 := ⟨p.app (.c m f .z), .c n e q, r, ps ++ [.int .i64 m, .slice (some ⟨bf, of, none⟩) f.enc.length cf], l0, l1.drop 2, b0, o0, bb, ob, n0, n1' - 1, k0, k1 - 1, np + 1, c5', some ⟨g5, 0, none⟩, rfl, (by rw [Hnat.out, T.nat_lt n m q r Hv.out, T.app_assoc]; rfl), (by rw [T.app_cnt, ← Hnp.out]; rfl), by omega, Htm.out, (fun x hx => Htm2.out x (by simp [T.times] at hx ⊢; exact .inr hx)), hla, (by have h1 := T.enc_len r; have h2 := T.enc_len (T.c m f r); rw [T.body_c] at h2; simp at h2; omega), rfl, (by rw [Hifb.out]), rfl, HA.out, HB'.out, hb0, HB'.out.2.2.2.2.1, ho5, HT.out.snoc Hatf.out hcf hcmf, hb5⟩
            have Hfin := Lib.hid hfin
            clear hfin hb5 ho5 hg5
            go_roundg (n0 + (n1' - 1))
            case measure => have := Hgk.out; omega
            case rel =>
              have h9 := Hfin.out
              first
                | (have hk : k1 = 1 := by omega
                   have h8 : k1 - 1 = 0 := by omega
                   rw [if_pos hk, h8] at h9
                   exact h9)
                | (have hk : ¬ k1 = 1 := by omega
                   rw [if_neg hk] at h9
                   exact h9))
        · obtain rfl : cv = 0 := by rw [Hcv.out, hv]
          have Hv := Lib.hid hv
          have hm1 := Htm.out n (by simp [T.times])
          have hm2 := Htm2.out m (by simp [T.times])
          have q1 : IntKind.i64.wrap (n + m) = n + m := IntWalk.i64_in _ (by omega)
          obtain ⟨wS, hwS⟩ : ∃ wS, wS = w3.drew.setCell ⟨wr.heap.size, 0, none⟩ (.int .i64 (n + m)) := ⟨_, rfl⟩
          have zS0 : wS.cell? ⟨wr.heap.size, 0, none⟩ = some (.int .i64 (n + m)) := by rw [hwS]; exact set_same z0 _
          have zS1 : wS.cell? ⟨wr.heap.size, 1, none⟩ = some (.slice (some ⟨be, oe, none⟩) e.enc.length ce) := by rw [hwS, World.cell?_setCell_other _ _ _ _ (by simp)]; exact z1
          have hbrS : Below wr.heap.size wr wS := by rw [hwS]; exact Hbr3.out.drew.setCell (Nat.le_refl _) _
          have HbrS := Lib.hid hbrS
          have HOS := Lib.hid (ownsRow_below' HO.out hbrS)
          have hszS : wS.heap.size = w3.heap.size := by rw [hwS]; simp
          have hsS := hbrS.size
          have HC2 := Lib.hid (cell_two_new wS (.int .i64 (n + m)) (.slice (some ⟨be, oe, none⟩) e.enc.length ce) 57)
          rw [hszS] at HC2
          clear hv hbrS
          subst hwS
          go_wp2_with fail
          go_still_tail 8, (by kernel_rfl)
          change wpList _ _ _ _ _ w3.drew
          go_wp2_with (first
            | (at_builtin; refine wpList_append_own _ rfl (.tmp 33) (.tmp 35) 54 rfl w.heap.size 57 i0 _ 2 32 Try.underlying54 hi hz0 hz1 hz2 rfl (by decide) _ np ps rfl (HOS.out.alloc _) ⟨w3.heap.size, 0, none⟩ 1 1 [.int .i64 (n + m), .slice (some ⟨be, oe, none⟩) e.enc.length ce] rfl rfl (HC2.out) (two_one _ _ rfl rfl) (by unfold maxLen; omega) (by omega) (by simp; omega) ?_; intro v5 w5 ho5 hg5 _))
          have hb5 : Below w.heap.size w w5 := ((Hbw.out.trans (HbrS.out.mono hws)).alloc (by simp; omega) _).grown hg5 (by simp; omega) (fun k hk => (HOS.out.lt k hk).1)
          obtain ⟨g5, c5', rfl⟩ := Joins.ownsRow_form ho5 (by omega)
          have hfin : ∀ wx, Below w5.heap.size w5 wx → NatLoop w s t (n0 - 1 + (n1' - 1)) (.slice (if k0 = 1 then some ⟨b0, o0, none⟩ else some ⟨b0, o0 + 2, none⟩) (n0 - 1) (k0 - 1)) (.slice (if k1 = 1 then some ⟨b1, o1, none⟩ else some ⟨b1, o1 + 2, none⟩) (n1' - 1) (k1 - 1)) (.slice (some ⟨g5, 0, none⟩) (np + 1) c5') wx := fun wx hbx =>
            ⟨p.app (.c (n + m) e .z), q, r, ps ++ [.int .i64 (n + m), .slice (some ⟨be, oe, none⟩) e.enc.length ce], l0.drop 2, l1.drop 2, ba, oa, bb, ob, n0 - 1, n1' - 1, k0 - 1, k1 - 1, np + 1, c5', some ⟨g5, 0, none⟩, rfl, (by rw [Hnat.out, T.nat_eq n m q r Hv.out, T.app_assoc]; rfl), (by rw [T.app_cnt, ← Hnp.out]; rfl), by omega, (fun x hx => Htm.out x (by simp [T.times] at hx ⊢; exact .inr hx)), (fun x hx => Htm2.out x (by simp [T.times] at hx ⊢; exact .inr hx)), (by have h1 := T.enc_len q; have h2 := T.enc_len (T.c n e q); rw [T.body_c] at h2; simp at h2; omega), (by have h1 := T.enc_len r; have h2 := T.enc_len (T.c m f r); rw [T.body_c] at h2; simp at h2; omega), (by rw [Hifa.out]), (by rw [Hifb.out]), rfl, HA'.out, HB'.out, HA'.out.2.2.2.2.1, HB'.out.2.2.2.2.1, ownsRow_below' ho5 hbx, HT.out.snoc Hate.out hce hcme, hb5.trans (hbx.mono hb5.size)⟩
          have Hfin := Lib.hid hfin
          clear hfin hb5 ho5 hg5
          by_cases hk0 : k0 = 1
          all_goals by_cases hk1 : k1 = 1
          all_goals (
            go_quiet (fail)
            go_wp2_with fail
            go_roundg (n0 - 1 + (n1' - 1))
            case measure => have := Hgk.out; omega
            case rel =>
              have h9 := Hfin.out
              first
                | (have h8 : k0 - 1 = 0 := by omega
                   simp only [if_pos hk0, h8] at h9
                   first
                     | (have h7 : k1 - 1 = 0 := by omega
                        simp only [if_pos hk1, h7] at h9
                        exact h9 _ (Joins.below_draws _ _ _))
                     | (simp only [if_neg hk1] at h9
                        exact h9 _ (Joins.below_draws _ _ _)))
                | (simp only [if_neg hk0] at h9
                   first
                     | (have h7 : k1 - 1 = 0 := by omega
                        simp only [if_pos hk1, h7] at h9
                        exact h9 _ (Joins.below_draws _ _ _))
                     | (simp only [if_neg hk1] at h9
                        exact h9 _ (Joins.below_draws _ _ _))))
        · obtain rfl : cv = 1 := by rw [Hcv.out, hv]
          have Hv := Lib.hid hv
          clear hv
          go_wp2_with (first
            | (at_builtin; refine wpList_append_own _ rfl (.tmp 43) (.tmp 45) 54 rfl w.heap.size 57 i0 _ 2 32 Try.underlying54 hi hz0 hz1 hz2 rfl (by decide) _ np ps rfl (HO3.out.alloc _) ⟨w3.heap.size, 0, none⟩ 1 1 [.int .i64 n, .slice (some ⟨be, oe, none⟩) e.enc.length ce] rfl rfl (cell_two_new _ _ _ _) (two_one _ _ rfl rfl) (by unfold maxLen; omega) (by omega) (by simp; omega) ?_; intro v5 w5 ho5 hg5 _))
          all_goals (
            have hb5 : Below w.heap.size w w5 := ((Hbw.out.trans (Hbr3.out.mono hws)).alloc (by omega) _).grown hg5 (by simp; omega) (fun k hk => (HO3.out.lt k hk).1)
            obtain ⟨g5, c5', rfl⟩ := Joins.ownsRow_form ho5 (by omega)
            have hfin : NatLoop w s t (n0 - 1 + n1') (.slice (if k0 = 1 then some ⟨b0, o0, none⟩ else some ⟨b0, o0 + 2, none⟩) (n0 - 1) (k0 - 1)) (.slice (some ⟨b1, o1, none⟩) n1' k1) (.slice (some ⟨g5, 0, none⟩) (np + 1) c5') w5 :=
              ⟨p.app (.c n e .z), q, .c m f r, ps ++ [.int .i64 n, .slice (some ⟨be, oe, none⟩) e.enc.length ce], l0.drop 2, l1, ba, oa, b1, o1, n0 - 1, n1', k0 - 1, k1, np + 1, c5', some ⟨g5, 0, none⟩, rfl, (by rw [Hnat.out, T.nat_gt n m q r Hv.out, T.app_assoc]; rfl), (by rw [T.app_cnt, ← Hnp.out]; rfl), by omega, (fun x hx => Htm.out x (by simp [T.times] at hx ⊢; exact .inr hx)), Htm2.out, (by have h1 := T.enc_len q; have h2 := T.enc_len (T.c n e q); rw [T.body_c] at h2; simp at h2; omega), hlb, (by rw [Hifa.out]), rfl, rfl, HA'.out, HB.out, HA'.out.2.2.2.2.1, hb1, ho5, HT.out.snoc Hate.out hce hcme, hb5⟩
            have Hfin := Lib.hid hfin
            clear hfin hb5 ho5 hg5
            go_roundg (n0 - 1 + n1')
            case measure => have := Hgk.out; omega
            case rel =>
              have h9 := Hfin.out
              first
                | (have hk : k0 = 1 := by omega
                   have h8 : k0 - 1 = 0 := by omega
                   rw [if_pos hk, h8] at h9
                   exact h9)
                | (have hk : ¬ k0 = 1 := by omega
                   rw [if_neg hk] at h9
                   exact h9))
  case rest =>
    obtain ⟨p, a, b, ps, l0, l1, b0, o0, b1, o1, n0, n1', k0, k1, np, c5, a5, hnat, hnp, hsz, rfl, rfl, rfl, hA, hB, ho, hT, hbw⟩ := hcut
    go_step
    obtain ⟨wz, rfl⟩ : ∃ wz : World, wz = wc := ⟨_, rfl⟩
    have HA := Lib.hid hA
    have HB := Lib.hid hB
    have HO := Lib.hid ho
    have HT := Lib.hid hT
    have Hbw := Lib.hid hbw
    have Hnat := Lib.hid hnat
    have Hnp := Lib.hid hnp
    have hws := hbw.size
    have hcel : ∀ i, (wz.alloc (.cells #[.slice a5 np c5, .slice (some ⟨b0, o0, none⟩) n0 k0, .slice (some ⟨b1, o1, none⟩) n1' k1] 54)).cell? ⟨wz.heap.size, i, none⟩ = #[Value.slice a5 np c5, .slice (some ⟨b0, o0, none⟩) n0 k0, .slice (some ⟨b1, o1, none⟩) n1' k1][i]? :=
      fun i => Joins.cell_alloc_mark_at _ _ _ _ _ _ rfl
    have kc := Lib.hid (concat3_any wz.heap.size 3 a5 (some ⟨b0, o0, none⟩) (some ⟨b1, o1, none⟩) np c5 n0 k0 n1' k1 ps l0 l1 _ (hcel 0) (hcel 1) (hcel 2)
      ((Rd.of_own ho hT.one).below (Joins.below_alloc1 _ _)) ((hA.below hbw).rd.below (Joins.below_alloc1 _ _)) ((hB.below hbw).rd.below (Joins.below_alloc1 _ _)) (by omega) (by omega) (by omega))
    clear hA hB ho hT hbw hnat hnp hcel
    go_wp2_with fail
    refine (kc.out).mono ?_
    rintro ee w5 ⟨a', c', rfl, ho', hb'⟩
    have hfin : TmPost w (T.nat s t) (.returned (.slice a' (np + n0 + n1') c')) w5 := by
      have h1 : Below wz.heap.size wz w5 := (Joins.below_alloc1 wz _).trans (hb'.mono (by simp))
      refine ⟨a', _, c', rfl, Tm.of_own ho' ?_ ?_, Hbw.out.trans (h1.mono hws)⟩
      · rw [Hnat.out, List.append_assoc]
        exact (HT.out.join (HA.out.2.2.2.1.join HB.out.2.2.2.1)).below (Hbw.out.trans (h1.mono hws))
      · rw [Hnat.out, T.app_cnt, T.app_cnt, ← Hnp.out, ← HA.out.1, ← HB.out.1]; omega
    have Hfin := Lib.hid hfin
    clear ho' hb' hfin
    go_wp2_with fail
    go_ret
    exact Hfin.out

end Go.Proofs.Ytlbaelehmoidpaa

/- NatJ -/
/- The program's OrdNatural. -/
namespace Go.Proofs.Ytlbaelehmoidpaa
set_option maxRecDepth 100000
open Go.RowKit

set_option maxHeartbeats 1000000 in
theorem impl_OrdNatural (a1 a2 : Option Addr) (n1 c1 n2 c2 : Nat) (xs ys : List Int) (w : World) (hx : Sl w a1 n1 c1 xs) (hy : Sl w a2 n2 c2 ys) :
    Calls Try.prog 58 #[.slice a1 n1 c1, .slice a2 n2 c2] w (OrdOkPost w (T.natRow xs ys) (T.natOk xs ys)) := by
  have HX := Lib.hid hx
  have HY := Lib.hid hy
  rcases vld_tf xs with h1 | h1
  · have k1 := Lib.hid (impl_valid a1 n1 c1 xs w hx h1)
    rcases vld_tf ys with h2 | h2
    · obtain ⟨e1, e2⟩ := T.natRow_val h1 h2
      rw [e1, e2]
      obtain ⟨b1, o1, s, rfl, rfl, hs, hos, hat1, hn1, hl1, hp1, hcc1, hm1⟩ := hx.valid h1
      obtain ⟨b2, o2, t, rfl, rfl, ht, hot, hat2, hn2, hl2, hp2, hcc2, hm2⟩ := hy.valid h2
      rw [hos, hot]
      have Hn1 := Lib.hid hn1
      have Hn2 := Lib.hid hn2
      have HA1 := Lib.hid hat1
      have HA2 := Lib.hid hat2
      have HS := Lib.hid hs
      have HT := Lib.hid ht
      have H2v := Lib.hid h2
      have hle1 : s.enc.length ≤ 1000 := by omega
      have hle2 : t.enc.length ≤ 1000 := by omega
      have hal := T.nat_len s t
      have hle3 : (T.nat s t).enc.length ≤ 1000000000000 := by have := T.enc_len s; have := T.enc_len t; have := T.enc_len (T.nat s t); omega
      obtain ⟨u, hu⟩ : ∃ u, u = T.nat s t := ⟨_, rfl⟩
      rw [← hu]
      rw [← hu] at hle3
      have Hu := Lib.hid hu
      have hlu : (T.fit u).length ≤ 1000 := T.fit_len u
      clear hx hy h1 h2 e1 e2 hos hot hat1 hat2 hs ht hn1 hn2 hu hal
      go_enter Try.func58, Try.ntmps58
      go_wp2_with fail
      refine (k1.out).mono ?_
      rintro ee w1 ⟨rfl, hb1⟩
      have Hb1 := Lib.hid hb1
      have k2 := Lib.hid (impl_valid (some ⟨b2, o2, none⟩) n2 c2 t.enc w1 (HY.out.below hb1) H2v.out)
      clear hb1
      go_wp2_with fail
      refine (k2.out).mono ?_
      rintro ee w2 ⟨rfl, hb2⟩
      have Hb2 := Lib.hid (Hb1.out.trans (hb2.mono Hb1.out.size))
      have k3 := Lib.hid (termsOf_any b1 o1 n1 c1 s.enc s w2 Hn1.out.symm (by omega) hcc1 hm1 (HA1.out.below Hb2.out (HA1.out.lt (T.enc_ne s))) rfl)
      clear hb2
      go_wp2_with fail
      refine (k3.out).mono ?_
      rintro ee w3 ⟨cs, rfl, ho3, ht3, hb3⟩
      have Hb3 := Lib.hid (Hb2.out.trans (hb3.mono Hb2.out.size))
      have Hz3 := Lib.hid (Tz.of_own ho3 ht3 rfl)
      have k4 := Lib.hid (termsOf_any b2 o2 n2 c2 t.enc t w3 Hn2.out.symm (by omega) hcc2 hm2 (HA2.out.below Hb3.out (HA2.out.lt (T.enc_ne t))) rfl)
      clear ho3 ht3 hb3
      go_wp2_with fail
      refine (k4.out).mono ?_
      rintro ee w4 ⟨ds, rfl, ho4, ht4, hb4⟩
      have Hb4 := Lib.hid (Hb3.out.trans (hb4.mono Hb3.out.size))
      have Hz4 := Lib.hid (Hz3.out.below hb4)
      have k5 := Lib.hid (mergedTerms_any w2.heap.size s.cnt s.cnt w3.heap.size t.cnt t.cnt s t cs ds w4 Hz4.out (Tz.of_own ho4 ht4 rfl) hle1 hle2
        (fun x hx => by have := T.nf_times HS.out x hx; omega) (fun x hx => by have := T.nf_times HT.out x hx; omega))
      rw [← Hu.out] at k5
      clear ho4 ht4 hb4
      go_wp2_with fail
      refine (k5.out).mono ?_
      rintro ee w5 ⟨a5, n5, c5, rfl, htm, hb5⟩
      have Hb5 := Lib.hid (Hb4.out.trans (hb5.mono Hb4.out.size))
      have k6 := Lib.hid (fittingOrd_any a5 n5 c5 u w5 hle3 htm)
      clear htm hb5
      go_wp2_with fail
      refine (k6.out).mono ?_
      rintro ee w6 ⟨a6, c6, rfl, ho6, hb6⟩
      have hfin : OrdOkPost w (T.fit u) (T.vldB u.enc) (.returned (.tuple #[.slice a6 (T.fit u).length c6, .bool (T.vldB u.enc)])) w6 :=
        ⟨a6, c6, rfl, Joins.ownsRow_le ho6 Hb5.out.size, Hb5.out.trans (hb6.mono Hb5.out.size)⟩
      have Hfin := Lib.hid hfin
      clear ho6 hb6 hfin
      go_wp2_with fail
      go_ret2
      exact Hfin.out
    · obtain ⟨e1, e2⟩ := T.natRow_bad (xs := xs) (.inr h2)
      rw [e1, e2]
      have H2v := Lib.hid h2
      clear hx hy h1 h2 e1 e2
      go_enter Try.func58, Try.ntmps58
      go_wp2_with fail
      refine (k1.out).mono ?_
      rintro ee w1 ⟨rfl, hb1⟩
      have Hb1 := Lib.hid hb1
      have k2 := Lib.hid (impl_valid a2 n2 c2 ys w1 (HY.out.below hb1) H2v.out)
      clear hb1
      go_wp2_with fail
      refine (k2.out).mono ?_
      rintro ee w2 ⟨rfl, hb2⟩
      have Hb2 := Lib.hid (Hb1.out.trans (hb2.mono Hb1.out.size))
      clear hb2
      go_wp2_with fail
      go_ret2
      exact OrdOkPost.nil (nil_own w w2) Hb2.out
  · have k1 := Lib.hid (impl_valid a1 n1 c1 xs w hx h1)
    obtain ⟨e1, e2⟩ := T.natRow_bad (ys := ys) (.inl h1)
    rw [e1, e2]
    clear hx hy h1 e1 e2
    go_enter Try.func58, Try.ntmps58
    go_wp2_with fail
    refine (k1.out).mono ?_
    rintro ee w1 ⟨rfl, hb1⟩
    have Hb1 := Lib.hid hb1
    clear hb1
    go_wp2_with fail
    go_ret2
    exact OrdOkPost.nil (nil_own w w1) Hb1.out

end Go.Proofs.Ytlbaelehmoidpaa

/- Power -/
/- OrdPower: the program's and the model's answers. -/
namespace Go.Proofs.Ytlbaelehmoidpaa
set_option maxRecDepth 100000
open Go.RowKit

theorem nf_power {t : T} (h : t.Nf) : (T.c 1 t .z).Nf := ⟨by omega, by omega, h, trivial, T.ok_z _⟩

theorem impl_OrdPower (ao : Option Addr) (len cap : Nat) (xs : List Int) (w : World) (h : Sl w ao len cap xs) :
    Calls Try.prog 57 #[.slice ao len cap] w fun e w' => ∃ a' c', e = .returned (.tuple #[.slice a' (T.powRow xs).length c', .bool (T.powOk xs)]) ∧
      w'.ownsRow w.heap.size 3 1 (.slice a' (T.powRow xs).length c') (T.powRow xs).length (ints (T.powRow xs)) ∧ Below w.heap.size w w' := by
  rcases vld_tf xs with h1 | h1
  · have k1 := Lib.hid (impl_valid ao len cap xs w h h1)
    obtain ⟨b, off, t, rfl, rfl, hs, hos, hat, hn, hl, hp, hc, hm⟩ := h.valid h1
    have hr : T.powRow t.enc = T.fit (.c 1 t .z) := by rw [T.powRow, if_pos h1, hos]
    have hr2 : T.powOk t.enc = T.vldB (T.c 1 t .z).enc := by rw [T.powOk, h1, hos]; rfl
    rw [hr, hr2]
    have HA := Lib.hid hat
    have HN := Lib.hid hn
    have hcl : (T.c 1 t .z).enc.length ≤ 1000000000000 := by rw [T.enc_len, T.body_c]; simp [T.body]; omega
    have HCL := Lib.hid hcl
    clear h1 hos hs hat hn hr hr2 hcl
    go_enter Try.func57, Try.ntmps57
    go_wp2_with fail
    refine (k1.out).mono ?_
    rintro ee w1 ⟨rfl, hb1⟩
    have Hb1 := Lib.hid hb1
    clear hb1
    go_wp2_with fail
    have hT : Tm (w1.alloc (.cells #[.int .i64 1, .slice (some ⟨b, off, none⟩) len cap] 57)) (some ⟨w1.heap.size, 0, none⟩) 1 (.c 1 t .z) := by
      refine Tm.of_own (cap := 1) (B := w1.heap.size) (cs := [.int .i64 1, .slice (some ⟨b, off, none⟩) len cap]) (World.ownsRow_lit w1 #[.int .i64 1, .slice (some ⟨b, off, none⟩) len cap] 1 (Nat.le_refl _) (by simp [maxLen]) rfl) ?_ rfl
      have h2 := HA.out.below Hb1.out (HA.out.lt (T.enc_ne t))
      exact ⟨b, off, cap, [], by rw [← HN.out], h2.alloc (T.enc_ne t) _, by rw [← HN.out]; exact hc, hm, rfl⟩
    refine (fittingOrd_any _ 1 1 (.c 1 t .z) _ HCL.out hT).mono ?_
    rintro ee w2 ⟨a', c', rfl, ho, hb2⟩
    have hb3 : Below w1.heap.size w1 w2 := ((Below.refl _ _).alloc (Nat.le_refl _) _).trans (hb2.mono (by simp))
    have Hb2 := Lib.hid (Hb1.out.trans (hb3.mono Hb1.out.size))
    have Ho := Lib.hid (Joins.ownsRow_le (base' := w.heap.size) ho (by have := Hb1.out.size; simp; omega))
    clear hb2 hb3 ho hT
    go_wp2_with fail
    go_ret2
    exact ⟨a', c', rfl, Ho.out, Hb2.out⟩
  · have k1 := Lib.hid (impl_valid ao len cap xs w h h1)
    have hr : T.powRow xs = [] := by rw [T.powRow, if_neg (by rw [h1]; simp)]
    have hr2 : T.powOk xs = false := by rw [T.powOk, h1]; rfl
    rw [hr, hr2]
    clear h1 hr hr2
    go_enter Try.func57, Try.ntmps57
    go_wp2_with fail
    refine (k1.out).mono ?_
    rintro ee w1 ⟨rfl, hb1⟩
    have Hb1 := Lib.hid hb1
    clear hb1
    go_wp2_with fail
    go_ret2
    exact ⟨none, 0, rfl, World.ownsRow_nil _ _ _ _, Hb1.out⟩

/-- What append reads of a slice that came in. -/
theorem Sl.news {w : World} {x : Addr} {len cap : Nat} {xs : List Int} (h : Sl w (some x) len cap xs) : ∀ j u, (ints xs)[j]? = some u → w.cell? (x.add j) = some u := by
  intro j u hu
  have hj : j < xs.length := by
    have := (List.getElem?_eq_some_iff.1 hu).1
    rwa [ints_len] at this
  obtain ⟨b, off, h1, h2⟩ := h.2.2.2 (by rw [← h.1]; omega)
  obtain rfl := Option.some.inj h1
  exact h2.news j u hu

theorem Sl.alloc {w : World} {ao : Option Addr} {len cap : Nat} {xs : List Int} (h : Sl w ao len cap xs) (o : Obj) : Sl (w.alloc o) ao len cap xs :=
  h.below ((Below.refl _ _).alloc (Nat.le_refl _) o)


end Go.Proofs.Ytlbaelehmoidpaa

/- TreeO -/
/- HydraOrd, the program's: the ordinal of a node. -/
namespace Go.Proofs.Ytlbaelehmoidpaa
set_option maxRecDepth 100000
open Go.RowKit

def NodeRel (w : World) (f : H) (v4 v5 v18 : Value) (wr : World) : Prop :=
  ∃ (i n : Nat) (d u : H) (a4 : Option Addr) (c4 : Nat), d.app u = f ∧ d.cnt = i ∧ v18 = .int .i64 i ∧ n = (T.fit d.ord).length ∧ v4 = .slice a4 n c4 ∧ v5 = .bool (T.vldB d.ord.enc) ∧
    wr.ownsRow w.heap.size 3 1 (.slice a4 n c4) n (ints (T.fit d.ord)) ∧ Below w.heap.size w wr

set_option maxHeartbeats 4000000 in
theorem nodeOrd_any (N : Nat) : ∀ (f : H) (p m : Nat) (w : World), f.body.length < N → f.enc.length ≤ 60 → Nd w f p m →
    Calls Try.prog 34 #[.pointer (some ⟨p, 0, none⟩)] w (OrdOkPost w (T.fit f.ord) (T.vldB f.ord.enc)) := by
  induction N with
  | zero => intro f p m w h; omega
  | succ N ih =>
    intro f p m w hN hl hnd
    obtain ⟨ao, c, us, q1, q2, q3, q4, q5⟩ := hnd
    have hel := H.enc_len f
    have hct := H.cnt_le f
    have xp : w.cell? ⟨p, 0, none⟩ = some (.slice ao f.cnt c) := Joins.cell_of_block q2 0
    have hpl : p < w.heap.size := (Array.getElem?_eq_some_iff.1 q2).1
    obtain ⟨K, hK⟩ : ∃ K, K = f.cnt := ⟨_, rfl⟩
    rw [← hK] at xp q3
    have hK60 : K ≤ 60 := by omega
    have hfb : f.body.length ≤ 9000 := by omega
    have k0 := Lib.hid (impl_OrdOf 0 w (by decide) (by decide))
    have hzv : T.vldB (H.ord .z).enc = true := T.vld_mk (t := .z) trivial (by decide)
    have hz : T.fit (H.ord .z) = T.num' 0 := by rw [T.fit, if_pos hzv]; rfl
    obtain ⟨rf, hrf⟩ : ∃ rf, rf = T.fit f.ord := ⟨_, rfl⟩
    obtain ⟨ro, hro⟩ : ∃ ro, ro = T.vldB f.ord.enc := ⟨_, rfl⟩
    rw [← hrf, ← hro]
    have Hrf := Lib.hid hrf
    have Hro := Lib.hid hro
    clear hrf hro
    have hst : ∀ a c w1, w1.ownsRow w.heap.size 3 1 (.slice a (T.num' 0).length c) (T.num' 0).length (ints (T.num' 0)) → Below w.heap.size w w1 →
        NodeRel w f (.slice a (T.num' 0).length c) (.bool true) (.int .i64 ((0 : Nat) : Int)) w1 := by
      intro a c w1 h1 h2
      exact ⟨0, (T.num' 0).length, .z, f, a, c, rfl, rfl, rfl, by rw [hz], rfl, by rw [hzv], by rw [hz]; exact h1, h2⟩
    have IH := Lib.hid ih
    have HN := Lib.hid hN
    have HK := Lib.hid hK
    have Hst := Lib.hid hst
    have Hq3 := Lib.hid q3
    have Hq5 := Lib.hid q5
    have Hhf := Lib.hid hfb
    have Hl := Lib.hid hl
    clear ih hN hK hst q2 q3 q4 q5 hel hct hfb hl hz hzv
    go_enter Try.func34, Try.ntmps34
    go_wp2_with fail
    refine (k0.out).mono ?_
    rintro ee w1 ⟨a1, c1, rfl, ho1, hb1⟩
    have hs1 := Hst.out a1 c1 w1 ho1 hb1
    obtain ⟨L1, hL1⟩ : ∃ L, L = (T.num' 0).length := ⟨_, rfl⟩
    rw [← hL1] at hs1 ⊢
    have Hs1 := Lib.hid hs1
    have xp1 : w1.cell? ⟨p, 0, none⟩ = some (.slice ao K c) := (hb1.cell (p := ⟨p, 0, none⟩) hpl).trans xp
    clear ho1 hb1 hL1 hs1
    go_wp2_with fail
    go_loopw [4, 5, 18] (fun v4 v5 v18 wr => NodeRel w f v4 v5 v18 wr) (fun _ _ v18 _ => K - (intOf v18).toNat)
    case atStart => exact Hs1.out
    case round =>
      obtain ⟨i, n, d, u, a4, c4, h1, h2, rfl, hn, rfl, rfl, ho, hbr⟩ := hrel
      have hci : K = i + u.cnt := by rw [HK.out, ← h1, H.app_cnt, h2]
      by_cases hlt : i < K
      · obtain ⟨k, r, rfl⟩ : ∃ k r, u = .c k r := H.cnt_pos (by omega)
        obtain ⟨q, mq, x1, x2, x3, x4, x5⟩ := Hq5.out.pick h1 h2
        obtain ⟨ga, ca, hva⟩ := Joins.ownsRow_form Hq3.out (by omega)
        simp only [Value.slice.injEq, true_and] at hva
        obtain ⟨rfl, rfl⟩ := hva
        have hgl : ga < w.heap.size := (Hq3.out.lt ga rfl).2
        have y1 : wr.cell? ⟨ga, i, none⟩ = some (.pointer (some ⟨q, 0, none⟩)) := (hbr.cell (p := ⟨ga, i, none⟩) hgl).trans ((Hq3.out.cellAt i (by omega)).trans x1)
        have hbody : d.body.length + (k.body.length + 1 + r.body.length) = f.body.length := by rw [← h1, H.app_body, List.length_append, H.body_c, List.length_append, H.enc_len]
        have hkl : k.enc.length ≤ 60 := by have := H.enc_len k; have := H.enc_len f; have := Hl.out; omega
        have kn := Lib.hid (IH.out k q mq wr (by have := HN.out; omega) hkl (x5.below hbr))
        have hst1 := H.ord_step h1 Hhf.out
        unfold OrdOkPost at kn
        obtain ⟨E, hE⟩ : ∃ E, E = T.fit k.ord := ⟨_, rfl⟩
        obtain ⟨EB, hEB⟩ : ∃ E, E = T.vldB k.ord.enc := ⟨_, rfl⟩
        rw [← hE, ← hEB] at kn
        rw [← hE] at hst1
        have H1 := Lib.hid h1
        have H2 := Lib.hid h2
        have Hci := Lib.hid hci
        have Ho := Lib.hid ho
        have Hbr := Lib.hid hbr
        have Hst1 := Lib.hid hst1
        have Hn := Lib.hid hn
        clear h1 h2 hci ho hbr hst1 hn x1 x2 x3 x4 x5 hbody hkl hE hEB
        go_wp2_with fail
        refine (kn.out).mono ?_
        rintro ee w2 ⟨a8, c8, rfl, ho8, hb8⟩
        have Hb2 := Lib.hid (Hbr.out.trans (hb8.mono Hbr.out.size))
        have Ho2 := Lib.hid (ownsRow_below' Ho.out hb8)
        have kp := Lib.hid (impl_OrdPower a8 E.length c8 E w2 (Sl.of_own ho8))
        obtain ⟨Q, hQ⟩ : ∃ Q, Q = T.powRow E := ⟨_, rfl⟩
        obtain ⟨QB, hQB⟩ : ∃ Q, Q = T.powOk E := ⟨_, rfl⟩
        rw [← hQ, ← hQB] at kp
        have HQ := Lib.hid hQ
        clear ho8 hb8 hQ hQB
        go_wp2_with fail
        refine (kp.out).mono ?_
        rintro ee w3 ⟨a10, c10, rfl, ho10, hb10⟩
        have Hb3 := Lib.hid (Hb2.out.trans (hb10.mono Hb2.out.size))
        have Ho3 := Lib.hid (ownsRow_below' Ho2.out hb10)
        have ht := Hst1.out
        rw [← HQ.out] at ht
        have kt := Lib.hid (impl_OrdNatural a4 a10 n c4 Q.length c10 (T.fit d.ord) Q w3 (Sl.of_own Ho3.out) (Sl.of_own ho10))
        unfold OrdOkPost at kt
        rw [ht.1, ht.2] at kt
        obtain ⟨R, hR⟩ : ∃ R, R = T.fit (H.ord (d.app (.c k .z))) := ⟨_, rfl⟩
        obtain ⟨RB, hRB⟩ : ∃ R, R = T.vldB (H.ord (d.app (.c k .z))).enc := ⟨_, rfl⟩
        rw [← hR, ← hRB] at kt
        have HR := Lib.hid hR
        have HRB := Lib.hid hRB
        clear ho10 hb10 ht hR hRB
        go_wp2_with fail
        refine (kt.out).mono ?_
        rintro ee w4 ⟨a12, c12, rfl, ho12, hb12⟩
        have hfin : NodeRel w f (.slice a12 R.length c12) (.bool RB) (.int .i64 ((i + 1 : Nat) : Int)) w4 :=
          ⟨i + 1, R.length, d.app (.c k .z), r, a12, c12, by rw [H.app_assoc]; exact H1.out, by rw [H.app_cnt, H2.out]; rfl, rfl, by rw [HR.out], rfl, by rw [HRB.out], by rw [← HR.out]; exact Joins.ownsRow_le ho12 Hb3.out.size, Hb3.out.trans (hb12.mono Hb3.out.size)⟩
        have Hfin := Lib.hid hfin
        clear ho12 hb12 hfin
        go_wp2_with fail
        go_roundw
        case rel => exact Hfin.out
        case measure => simp [intOf]; omega
      · have hu : u = .z := H.cnt_zero (by omega)
        subst hu
        have hdf : d = f := by rw [H.app_z] at h1; exact h1
        subst hdf
        have hp : OrdOkPost w rf ro (.returned (.tuple #[.slice a4 n c4, .bool ro])) wr := by
          rw [Hrf.out]
          exact ⟨a4, c4, by rw [hn], by rw [← hn]; exact ho, hbr⟩
        rw [← Hro.out]
        have Hp := Lib.hid hp
        clear h1 h2 hci ho hbr hn hp
        go_wp2_with fail
        go_ret2
        exact Hp.out

theorem impl_HydraOrd (ao : Option Addr) (len cap : Nat) (xs : List Int) (w : World) (h : Sl w ao len cap xs) :
    Calls Try.prog 11 #[.slice ao len cap] w (OrdOkPost w (H.ordRow xs) (H.ordRowOk xs)) := by
  have k1 := Lib.hid (impl_HydraValid ao len cap xs w h)
  rcases H.hv_tf xs with hv | hv
  · obtain ⟨f, he, h60, hof⟩ := H.hv_of hv
    subst he
    rw [H.ordRow, if_pos hv, H.ordRowOk, hof, hv, Bool.true_and]
    rw [hv] at k1
    have k2 := Lib.hid (treeOf_any ao len cap f w h (by rw [← h.1]; exact h60))
    have H60 := Lib.hid h60
    obtain ⟨r, hr⟩ : ∃ r, r = T.fit f.ord := ⟨_, rfl⟩
    obtain ⟨o, ho⟩ : ∃ o, o = T.vldB f.ord.enc := ⟨_, rfl⟩
    have k3 := fun w1 (hn : Nd w1 f w.heap.size w1.heap.size) => nodeOrd_any (f.body.length + 1) f w.heap.size w1.heap.size w1 (by omega) h60 hn
    rw [← hr, ← ho] at k3 ⊢
    unfold OrdOkPost at k3
    have K3 := Lib.hid k3
    clear h hv h60 hof hr ho k3
    go_enter Try.func11, Try.ntmps11
    go_wp2_with fail
    refine (k1.out).mono ?_
    rintro ee w' ⟨rfl, rfl⟩
    go_wp2_with fail
    refine (k2.out).mono ?_
    rintro ee w1 ⟨rfl, hn, hb⟩
    have Hb := Lib.hid hb
    have k4 := Lib.hid (K3.out w1 hn)
    clear hn hb
    go_wp2_with fail
    refine (k4.out).mono ?_
    rintro ee w2 ⟨a2, c2, rfl, ho2, hb2⟩
    have Ho2 := Lib.hid (Joins.ownsRow_le ho2 Hb.out.size)
    have Hb2 := Lib.hid (Hb.out.trans (hb2.mono Hb.out.size))
    clear ho2 hb2
    go_wp2_with fail
    go_ret2
    exact ⟨a2, c2, rfl, Ho2.out, Hb2.out⟩
  · rw [H.ordRow, if_neg (by rw [hv]; simp), H.ordRowOk, hv, Bool.false_and]
    rw [hv] at k1
    clear h hv
    go_enter Try.func11, Try.ntmps11
    go_wp2_with fail
    refine (k1.out).mono ?_
    rintro ee w' ⟨rfl, rfl⟩
    go_wp2_with fail
    go_ret2
    exact OrdOkPost.nil (nil_own _ _) (Below.refl _ _)

end Go.Proofs.Ytlbaelehmoidpaa

/- StepI -/
/- OrdStep of the program. -/
namespace Go.Proofs.Ytlbaelehmoidpaa
set_option maxRecDepth 100000
open Go.RowKit

theorem own_rowT {w : World} {B c : Nat} {a : Option Addr} {t : T} (h : w.ownsRow B 3 1 (.slice a t.enc.length c) t.enc.length (ints t.enc)) :
    ∃ g, a = some ⟨g, 0, none⟩ ∧ B ≤ g ∧ At w g 0 t.enc ∧ t.enc.length ≤ c ∧ c ≤ maxLen := by
  have hs := Sl.of_own h
  obtain ⟨b, o, he, hat⟩ := hs.2.2.2 (by rw [T.enc_len]; omega)
  obtain ⟨g, cap, hf⟩ := Joins.ownsRow_form h (by rw [T.enc_len]; omega)
  simp only [Value.slice.injEq] at hf
  obtain ⟨rfl, _, rfl⟩ := hf
  simp only [Option.some.injEq, Addr.mk.injEq, and_true] at he
  obtain ⟨rfl, rfl⟩ := he
  exact ⟨g, rfl, (h.lt g rfl).1, hat, hs.2.1, hs.2.2.1⟩

def StepPost (w : World) (t : T) (e : Ending) (w' : World) : Prop :=
  ∃ ao n c cs, e = .returned (.slice ao n c) ∧ n = t.cnt ∧ w'.ownsRow w.heap.size 57 2 (.slice ao n c) n cs ∧ TC w' t cs ∧ Below w.heap.size w w'

theorem T.step_small (k : Int) {t : T} (h : t.enc.length ≤ 60) : (t.step k).body.length ≤ 3540 ∧ (t.step k).enc.length ≤ 1000000000000 ∧ (t.step k).cnt ≤ 3540 := by
  have h1 := T.step_len k t
  have h2 := T.enc_len t
  have h3 : t.body.length * t.body.length ≤ 59 * 59 := Nat.mul_le_mul (by omega) (by omega)
  have h4 := T.cnt_le (t.step k)
  have h5 := T.enc_len (t.step k)
  omega

set_option maxHeartbeats 4000000 in
theorem steppedTerms_any (k : Int) (_hk0 : 0 ≤ k) (_hk1 : k ≤ 99) (N : Nat) : ∀ (b off n cap : Nat) (t : T) (w : World), t.body.length < N → n = t.enc.length → n ≤ 60 → n ≤ cap → cap ≤ maxLen → At w b off t.enc → t.Nf →
    Calls Try.prog 68 #[.slice (some ⟨b, off, none⟩) n cap, .int .i64 k] w (StepPost w (t.step k)) := by
  induction N with
  | zero => intro b off n cap t w h; omega
  | succ N ih =>
    intro b off n cap t w hN hn hb hc hm hat hnf
    obtain ⟨i0, hi, hz0, hz1, hz2⟩ := info_parts info_term
    have IH := Lib.hid ih
    have HA := Lib.hid hat
    have Hn := Lib.hid hn
    have HN := Lib.hid hN
    have HF := Lib.hid hnf
    have ki := Lib.hid (isZero_any b off n cap (t.cnt : Int) w (by rw [hn, T.enc_len]; omega) hat.head)
    have kt := Lib.hid (termsOf_old b off n cap t.enc t w hn.symm (by omega) hc hm hat rfl)
    clear ih hN hn hat hnf
    by_cases htz : t.cnt = 0
    · have hz : ((t.cnt : Int) == 0) = true := by rw [htz]; rfl
      have Hz := Lib.hid (T.cnt_zero htz)
      clear htz
      go_enter Try.func68, Try.ntmps68
      go_wp2_with fail
      refine (ki.out).mono ?_
      rintro ee wx ⟨rfl, rfl⟩
      go_wp2_with fail
      go_ret
      exact ⟨none, 0, 0, [], rfl, by rw [Hz.out]; rfl, World.ownsRow_nil _ _ _ _, by rw [Hz.out]; rfl, Below.refl _ _⟩
    · have hz : ((t.cnt : Int) == 0) = false := by simpa using htz
      obtain ⟨d, m, e, hd1, hd2⟩ := T.last_of t (by omega)
      have hst : t.step k = t.less.app (T.tail k e) := by rw [hd1, T.step_app]
      obtain ⟨q1, q2, q3⟩ := T.part_nf hd1.symm HF.out
      have hpl := T.part_len hd1.symm
      have hel : e.enc.length ≤ 60 := by have := Hn.out; have := T.enc_len t; omega
      have heN : e.body.length < N := by have := HN.out; omega
      obtain ⟨E, hE⟩ : ∃ E, E = e.step k := ⟨_, rfl⟩
      have hES := T.step_small k hel
      rw [← hE] at hES
      have HEL := Lib.hid hES.2.1
      have HE := Lib.hid hE.symm
      have HST := Lib.hid hst
      have Hd1 := Lib.hid hd1
      have Hd2 := Lib.hid hd2
      have HEF := Lib.hid q3
      have hcl : t.cnt ≤ 60 := by have := T.cnt_le t; have := T.enc_len t; have := Hn.out; omega
      have hge : 1 ≤ t.cnt := by omega
      obtain ⟨tc, htc⟩ : ∃ tc, tc = t.cnt := ⟨_, rfl⟩
      have Htc := Lib.hid htc
      clear htz hst hd1 hpl hE hES q3
      rw [← htc] at hz hcl hge hd2 ki
      go_enter Try.func68, Try.ntmps68
      go_wp2_with fail
      refine (ki.out).mono ?_
      rintro ee wx ⟨rfl, rfl⟩
      go_wp2_with fail
      refine (kt.out).mono ?_
      rintro ee w2 ⟨cs, rfl, ho, hT, hb2⟩
      rw [← htc] at ho ⊢
      obtain ⟨be, oe, ce, p1, p2, p3, p4, p5⟩ := hT.pick (d := d) (k := d.cnt) Hd1.out.symm rfl
      have x2 : w2.cell? ⟨w.heap.size, (tc - 1) * 2 + 1, none⟩ = some (.slice (some ⟨be, oe, none⟩) e.enc.length ce) := by
        rw [ho.cellAt _ (by omega), show (tc - 1) * 2 + 1 = 2 * d.cnt + 1 by omega]; exact p2
      have kl := Lib.hid (lastLess_any w.heap.size tc tc d e t m cs w w2 (by omega) (by omega) q1 q2 Hd1.out ho hT)
      have HAe := Lib.hid p3
      have Hb2 := Lib.hid hb2
      obtain ⟨g, hg⟩ : ∃ g, g = w.heap.size := ⟨_, rfl⟩
      have Hg := Lib.hid hg
      clear ho hT p1 p2 p3 hb2 htc
      rw [← hg] at x2 kl ⊢
      clear hg
      go_wp2_with fail
      refine (kl.out).mono ?_
      rintro ee w3 ⟨n', cs', rfl, hn', ho3, hT3, hb3⟩
      have ho3 := Joins.ownsRow_le (base' := w.heap.size) ho3 (Nat.le_of_eq Hg.out.symm)
      have hb3' := Hb2.out.trans (hb3.mono (Nat.le_of_eq Hg.out.symm))
      have hn'b : n' ≤ 60 := by
        have h1 := T.cnt_le t.less
        have h2 := T.less_len t
        have h3 := T.enc_len t
        have := Hn.out
        omega
      have HN' := Lib.hid hn'
      have Hb3 := Lib.hid hb3'
      have Ho3 := Lib.hid ho3
      have HT4 := Lib.hid hT3
      have kk := Lib.hid (kindOf_any be oe e.enc.length ce e w3 rfl (by omega) p4 p5 (HAe.out.below hb3' (HAe.out.lt (T.enc_ne e))))
      clear hn' ho3 hT3 hb3 hb3'
      go_wp2_with fail
      refine (kk.out).mono ?_
      rintro ee w4 ⟨rfl, hb4⟩
      have hb4' := Hb3.out.trans (hb4.mono Hb3.out.size)
      have Hb4 := Lib.hid hb4'
      have Ho4 := Lib.hid (ownsRow_below' Ho3.out hb4)
      have k5 := Lib.hid (IH.out be oe e.enc.length ce e w4 heN rfl hel p4 p5 (HAe.out.below hb4' (HAe.out.lt (T.enc_ne e))) HEF.out)
      unfold StepPost at k5
      rw [HE.out] at k5
      clear hb4 hb4'
      rcases T.kind_vals e with ⟨h0, _⟩ | ⟨h0 | h0, _⟩
      · have HK := Lib.hid h0
        rw [h0]
        clear h0
        have hstep : t.step k = t.less := by rw [HST.out, T.tail, if_pos HK.out, T.app_z]
        have hfin : StepPost w (t.step k) (.returned (.slice (some ⟨g, 0, none⟩) n' tc)) w4 := by
          rw [hstep]
          exact ⟨_, n', tc, cs', rfl, HN'.out, Ho4.out, HT4.out.below Hb4.out, Hb4.out⟩
        have Hfin := Lib.hid hfin
        clear hstep hfin
        go_wp2_with fail
        go_ret
        exact Hfin.out
      · have HK := Lib.hid h0
        rw [h0]
        clear h0
        by_cases hkz : k = 0
        · have hkb : (k == 0) = true := by rw [hkz]; rfl
          have HKZ := Lib.hid hkz
          clear hkz
          have hstep : t.step k = t.less := by rw [HST.out, T.tail, if_neg (by rw [HK.out]; decide), if_pos HK.out, if_pos HKZ.out, T.app_z]
          have hfin : StepPost w (t.step k) (.returned (.slice (some ⟨g, 0, none⟩) n' tc)) w4 := by
            rw [hstep]
            exact ⟨_, n', tc, cs', rfl, HN'.out, Ho4.out, HT4.out.below Hb4.out, Hb4.out⟩
          have Hfin := Lib.hid hfin
          clear hstep hfin
          go_wp2_with fail
          go_ret
          exact Hfin.out
        · have hkb : (k == 0) = false := by simpa using hkz
          have HKZ := Lib.hid hkz
          clear hkz
          go_wp2_with fail
          refine (k5.out).mono ?_
          rintro ee w5 ⟨a5, n5, c5, cs5, rfl, hn5, ho5, hT5, hb5⟩
          have hb45 := hb5
          have k6 := Lib.hid (ordOfTerms_any a5 n5 c5 E w5 HEL.out (Tm.of_own ho5 hT5 hn5))
          have Hb45 := Lib.hid hb45
          clear hn5 ho5 hT5 hb5 hb45
          go_wp2_with fail
          refine (k6.out).mono ?_
          rintro ee w6 ⟨a6, c6, rfl, ho6, hb6⟩
          have hb46 := Hb45.out.trans (hb6.mono Hb45.out.size)
          have hb06 := Hb4.out.trans (hb46.mono Hb4.out.size)
          have Ho4' := Lib.hid (ownsRow_below' Ho4.out hb46)
          have Ho6 := Lib.hid ho6
          obtain ⟨g6, rfl, hg6, hat6, hc6, hm6⟩ := own_rowT ho6
          have Hb06 := Lib.hid hb06
          have hs06 : w.heap.size ≤ w6.heap.size := hb06.size
          clear ho6 hb6 hb46 hb06 hat6
          go_wp2_with (first
            | (at_builtin; refine wpList_append_own _ rfl (.tmp 31) (.tmp 38) 54 rfl w.heap.size 57 i0 _ 2 32 Try.underlying54 hi hz0 hz1 hz2 rfl (by decide) _ n' cs' rfl (Ho4'.out.alloc _) ⟨w6.heap.size, 0, none⟩ 1 1 [.int .i64 k, .slice (some ⟨g6, 0, none⟩) E.enc.length c6] rfl rfl (cell_two_new _ _ _ _) (two_one _ _ rfl rfl) (by unfold maxLen; omega) (by omega) (by simp; omega) ?_; intro v7 w7 ho7 hg7 _))
          have hb7 : Below w.heap.size w w7 := (Hb06.out.alloc hs06 _).grown hg7 (by simp; omega) (fun k hk => (Ho4'.out.lt k hk).1)
          have hz7 := kept_of Ho6.out hg7 (own_ne Ho6.out Ho4'.out (by decide))
          obtain ⟨g7', hq7, _, hat7, _, _⟩ := own_rowT hz7
          simp only [Option.some.injEq, Addr.mk.injEq, and_true] at hq7
          subst hq7
          obtain ⟨g7, c7, rfl⟩ := Joins.ownsRow_form ho7 (by omega)
          have hstep : t.step k = t.less.app (.c k E .z) := by rw [HST.out, T.tail, if_neg (by rw [HK.out]; decide), if_pos HK.out, if_neg HKZ.out, HE.out]
          have hfin : StepPost w (t.step k) (.returned (.slice (some ⟨g7, 0, none⟩) (n' + 1) c7)) w7 := by
            refine ⟨_, n' + 1, c7, _, rfl, by rw [hstep, T.app_cnt, HN'.out]; rfl, ho7, ?_, hb7⟩
            rw [hstep]
            exact (HT4.out.below hb7).snoc hat7 hc6 hm6
          have Hfin := Lib.hid hfin
          clear hb7 hz7 hat7 ho7 hg7 hstep hfin
          go_wp2_with fail
          go_ret
          exact Hfin.out
      · have HK := Lib.hid h0
        rw [h0]
        clear h0
        go_wp2_with fail
        refine (k5.out).mono ?_
        rintro ee w5 ⟨a5, n5, c5, cs5, rfl, hn5, ho5, hT5, hb5⟩
        have hb45 := hb5
        have k6 := Lib.hid (ordOfTerms_any a5 n5 c5 E w5 HEL.out (Tm.of_own ho5 hT5 hn5))
        have Hb45 := Lib.hid hb45
        clear hn5 ho5 hT5 hb5 hb45
        go_wp2_with fail
        refine (k6.out).mono ?_
        rintro ee w6 ⟨a6, c6, rfl, ho6, hb6⟩
        have hb46 := Hb45.out.trans (hb6.mono Hb45.out.size)
        have hb06 := Hb4.out.trans (hb46.mono Hb4.out.size)
        have Ho4' := Lib.hid (ownsRow_below' Ho4.out hb46)
        have Ho6 := Lib.hid ho6
        obtain ⟨g6, rfl, hg6, hat6, hc6, hm6⟩ := own_rowT ho6
        have Hb06 := Lib.hid hb06
        have hs06 : w.heap.size ≤ w6.heap.size := hb06.size
        clear ho6 hb6 hb46 hb06 hat6
        go_wp2_with (first
          | (at_builtin; refine wpList_append_own _ rfl (.tmp 31) (.tmp 38) 54 rfl w.heap.size 57 i0 _ 2 32 Try.underlying54 hi hz0 hz1 hz2 rfl (by decide) _ n' cs' rfl (Ho4'.out.alloc _) ⟨w6.heap.size, 0, none⟩ 1 1 [.int .i64 1, .slice (some ⟨g6, 0, none⟩) E.enc.length c6] rfl rfl (cell_two_new _ _ _ _) (two_one _ _ rfl rfl) (by unfold maxLen; omega) (by omega) (by simp; omega) ?_; intro v7 w7 ho7 hg7 _))
        have hb7 : Below w.heap.size w w7 := (Hb06.out.alloc hs06 _).grown hg7 (by simp; omega) (fun k hk => (Ho4'.out.lt k hk).1)
        have hz7 := kept_of Ho6.out hg7 (own_ne Ho6.out Ho4'.out (by decide))
        obtain ⟨g7', hq7, _, hat7, _, _⟩ := own_rowT hz7
        simp only [Option.some.injEq, Addr.mk.injEq, and_true] at hq7
        subst hq7
        obtain ⟨g7, c7, rfl⟩ := Joins.ownsRow_form ho7 (by omega)
        have hstep : t.step k = t.less.app (.c 1 E .z) := by rw [HST.out, T.tail, if_neg (by rw [HK.out]; decide), if_neg (by rw [HK.out]; decide), HE.out]
        have hfin : StepPost w (t.step k) (.returned (.slice (some ⟨g7, 0, none⟩) (n' + 1) c7)) w7 := by
          refine ⟨_, n' + 1, c7, _, rfl, by rw [hstep, T.app_cnt, HN'.out]; rfl, ho7, ?_, hb7⟩
          rw [hstep]
          exact (HT4.out.below hb7).snoc hat7 hc6 hm6
        have Hfin := Lib.hid hfin
        clear hb7 hz7 hat7 ho7 hg7 hstep hfin
        go_wp2_with fail
        go_ret
        exact Hfin.out

theorem isStepNumber_any (n : Int) (w : World) :
    Calls Try.prog 43 #[.int .i64 n] w fun e w' => e = .returned (.bool (decide (0 ≤ n ∧ n ≤ 99))) ∧ w = w' := by
  by_cases h0 : 0 ≤ n
  · by_cases h1 : n ≤ 99
    · have hr : decide (0 ≤ n ∧ n ≤ 99) = true := by simp [h0, h1]
      rw [hr]
      clear hr
      go_enter Try.func43, Try.ntmps43
      go_wp2
      go_ret
      exact ⟨rfl, rfl⟩
    · have hr : decide (0 ≤ n ∧ n ≤ 99) = false := by simp [h1]
      have hd : decide (n ≤ 99) = false := by simp [h1]
      rw [hr]
      clear hr
      go_enter Try.func43, Try.ntmps43
      go_wp2
      go_ret
      exact ⟨rfl, rfl⟩
  · have hr : decide (0 ≤ n ∧ n ≤ 99) = false := by simp [h0]
    have hd : decide (0 ≤ n) = false := by simp [h0]
    rw [hr]
    clear hr
    go_enter Try.func43, Try.ntmps43
    go_wp2
    go_ret
    exact ⟨rfl, rfl⟩

theorem stepDown_any (k : Int) (hk0 : 0 ≤ k) (hk1 : k ≤ 99) (b off n cap : Nat) (t : T) (w : World) (hn : n = t.enc.length) (hl : n ≤ 60) (hc : n ≤ cap) (hm : cap ≤ maxLen) (hat : At w b off t.enc) (hnf : t.Nf) :
    Calls Try.prog 44 #[.slice (some ⟨b, off, none⟩) n cap, .int .i64 k] w (OrdOkPost w (T.fit (t.step k)) (T.vldB (t.step k).enc)) := by
  have k1 := Lib.hid (steppedTerms_any k hk0 hk1 (t.body.length + 1) b off n cap t w (by omega) hn hl hc hm hat hnf)
  obtain ⟨E, hE⟩ : ∃ E, E = t.step k := ⟨_, rfl⟩
  have hES := T.step_small k (hn ▸ hl)
  rw [← hE] at hES k1 ⊢
  have HEL := Lib.hid hES.2.1
  unfold StepPost at k1
  obtain ⟨r, hr⟩ : ∃ r, r = T.fit E := ⟨_, rfl⟩
  obtain ⟨v, hv⟩ : ∃ v, v = T.vldB E.enc := ⟨_, rfl⟩
  rw [← hr, ← hv]
  have Hr := Lib.hid hr
  have Hv := Lib.hid hv
  clear hn hat hnf hES hE hr hv
  go_enter Try.func44, Try.ntmps44
  go_wp2_with fail
  refine (k1.out).mono ?_
  rintro ee w1 ⟨ao, n1, c1, cs, rfl, hn1, ho1, hT1, hb1⟩
  have k2 := Lib.hid (fittingOrd_any ao n1 c1 E w1 HEL.out (Tm.of_own ho1 hT1 hn1))
  rw [← Hr.out, ← Hv.out] at k2
  have Hb1 := Lib.hid hb1
  clear hn1 ho1 hT1 hb1
  go_wp2_with fail
  refine (k2.out).mono ?_
  rintro ee w2 ⟨a2, c2, rfl, ho2, hb2⟩
  have Ho2 := Lib.hid (Joins.ownsRow_le (base' := w.heap.size) ho2 Hb1.out.size)
  have Hb2 := Lib.hid (Hb1.out.trans (hb2.mono Hb1.out.size))
  clear ho2 hb2
  go_wp2_with fail
  go_ret2
  exact ⟨a2, c2, rfl, Ho2.out, Hb2.out⟩

theorem T.stepRow_bad {xs : List Int} {n : Int} (h : T.vldB xs = false ∨ ¬ (0 ≤ n ∧ n ≤ 99)) : T.stepRow xs n = [] ∧ T.stepOk xs n = false := by
  constructor
  · rw [T.stepRow, if_neg]
    rintro ⟨h1, h2⟩
    rcases h with h | h
    · rw [h] at h1; cases h1
    · exact h h2
  · rw [T.stepOk]
    rcases h with h | h
    · rw [h]; rfl
    · rw [decide_eq_false h]; simp
theorem T.stepRow_val {t : T} {n : Int} (h : T.vldB t.enc = true) (h0 : 0 ≤ n) (h1 : n ≤ 99) : T.stepRow t.enc n = T.fit (t.step n) ∧ T.stepOk t.enc n = T.vldB (t.step n).enc := by
  constructor
  · rw [T.stepRow, if_pos ⟨h, h0, h1⟩, T.of_enc]
  · rw [T.stepOk, h, decide_eq_true ⟨h0, h1⟩, T.of_enc]; rfl

theorem impl_OrdStep (ao : Option Addr) (len cap : Nat) (xs : List Int) (n : Int) (w : World) (h : Sl w ao len cap xs) (_hn0 : -9223372036854775808 ≤ n) (_hn1 : n ≤ 9223372036854775807) :
    Calls Try.prog 21 #[.slice ao len cap, .int .i64 n] w (OrdOkPost w (T.stepRow xs n) (T.stepOk xs n)) := by
  have ks := Lib.hid (isStepNumber_any n)
  rcases vld_tf xs with h1 | h1
  · have k1 := Lib.hid (impl_valid ao len cap xs w h h1)
    by_cases hin : 0 ≤ n ∧ n ≤ 99
    · rw [decide_eq_true hin] at ks
      obtain ⟨b, off, t, rfl, rfl, hs, hos, hat, hn, hl, hp, hc, hm⟩ := h.valid h1
      obtain ⟨e1, e2⟩ := T.stepRow_val h1 hin.1 hin.2
      rw [e1, e2]
      have HA := Lib.hid hat
      have HN := Lib.hid hn
      have HS := Lib.hid hs
      have HIN := Lib.hid hin
      obtain ⟨r, hr⟩ : ∃ r, r = T.fit (t.step n) := ⟨_, rfl⟩
      obtain ⟨v, hv⟩ : ∃ v, v = T.vldB (t.step n).enc := ⟨_, rfl⟩
      rw [← hr, ← hv]
      have Hr := Lib.hid hr
      have Hv := Lib.hid hv
      clear h h1 hos hs hat hn hin _hn0 _hn1 e1 e2 hr hv
      go_enter Try.func21, Try.ntmps21
      go_wp2_with fail
      refine (k1.out).mono ?_
      rintro ee w1 ⟨rfl, hb1⟩
      have Hb1 := Lib.hid hb1
      have k2 := Lib.hid (stepDown_any n HIN.out.1 HIN.out.2 b off len cap t w1 HN.out hl hc hm (HA.out.below hb1 (HA.out.lt (T.enc_ne t))) HS.out)
      unfold OrdOkPost at k2
      rw [← Hr.out, ← Hv.out] at k2
      clear hb1
      go_wp2_with fail
      refine (ks.out _).mono ?_
      rintro ee w2 ⟨rfl, rfl⟩
      go_wp2_with fail
      refine (k2.out).mono ?_
      rintro ee w2 ⟨a2, c2, rfl, ho2, hb2⟩
      have Ho2 := Lib.hid (Joins.ownsRow_le (base' := w.heap.size) ho2 Hb1.out.size)
      have Hb2 := Lib.hid (Hb1.out.trans (hb2.mono Hb1.out.size))
      clear ho2 hb2
      go_wp2_with fail
      go_ret2
      exact ⟨a2, c2, rfl, Ho2.out, Hb2.out⟩
    · rw [decide_eq_false hin] at ks
      obtain ⟨e1, e2⟩ := T.stepRow_bad (xs := xs) (n := n) (.inr hin)
      rw [e1, e2]
      clear h h1 hin _hn0 _hn1 e1 e2
      go_enter Try.func21, Try.ntmps21
      go_wp2_with fail
      refine (k1.out).mono ?_
      rintro ee w1 ⟨rfl, hb1⟩
      have Hb1 := Lib.hid hb1
      clear hb1
      go_wp2_with fail
      refine (ks.out _).mono ?_
      rintro ee w2 ⟨rfl, rfl⟩
      go_wp2_with fail
      go_ret2
      exact OrdOkPost.nil (nil_own w w1) Hb1.out
  · have k1 := Lib.hid (impl_valid ao len cap xs w h h1)
    obtain ⟨e1, e2⟩ := T.stepRow_bad (xs := xs) (n := n) (.inl h1)
    rw [e1, e2]
    clear h h1 _hn0 _hn1 e1 e2
    go_enter Try.func21, Try.ntmps21
    go_wp2_with fail
    refine (k1.out).mono ?_
    rintro ee w1 ⟨rfl, hb1⟩
    have Hb1 := Lib.hid hb1
    clear hb1
    go_wp2_with fail
    go_ret2
    exact OrdOkPost.nil (nil_own w w1) Hb1.out
end Go.Proofs.Ytlbaelehmoidpaa

/- LFnHydraOf -/
/- FnHydraOf: the walk of the law. -/
namespace Go.Proofs.Ytlbaelehmoidpaa
set_option maxRecDepth 100000
open Go.RowKit

theorem of_no {xs : List Int} (h : T.hydRowOk xs = false) : T.hydRow xs = [] := by
  rw [T.hydRowOk, Bool.and_eq_false_iff] at h
  rw [T.hydRow]
  rcases h with h | h
  · rw [if_neg (by rw [h]; simp)]
  · split
    · exact T.hydFit_no h
    · rfl
theorem hof_bnd (xs : List Int) : -1 ≤ H.headsRow xs ∧ H.headsRow xs ≤ 60 := by
  rcases H.hv_tf xs with hv | hv
  · have h1 := H.heads_facts hv
    have h2 := H.hv_len hv
    omega
  · rw [H.heads_bad hv]; omega

set_option maxHeartbeats 4000000 in
theorem fnHydraOf_walk (a : Option Addr) (len cap : Nat) (a2 : Option Addr) (len2 cap2 : Nat) (w : World) (h : By w a len cap) (h2 : By w a2 len2 cap2) :
    Calls Try.prog 5 #[.slice a len cap, .slice a2 len2 cap2] w fun e w' => e = .returned (.bool true) ∧ Below w.heap.size w w' := by
  have hlm : len ≤ 9223372036854775807 := by have := h.1; have := h.2.1; unfold maxLen at this; omega
  have hlm2 : len2 ≤ 9223372036854775807 := by have := h2.1; have := h2.2.1; unfold maxLen at this; omega
  by_cases hbig : 1048576 < len
  · clear h h2
    go_enter Try.func5, Try.ntmps5
    go_wp2_with fail
    go_ret
    exact ⟨rfl, Below.refl _ _⟩
  by_cases hbig2 : 1048576 < len2
  · clear h h2
    go_enter Try.func5, Try.ntmps5
    go_wp2_with fail
    go_ret
    exact ⟨rfl, Below.refl _ _⟩
  have k0 := Lib.hid (drawHydraOf_any a len cap w h)
  clear h h2
  go_enter Try.func5, Try.ntmps5
  go_wp2_with fail
  refine (k0.out).mono ?_
  rintro ee w1 ⟨xs, g, n, c, hn, rfl, ho, hl, hb0⟩
  have Hn := Lib.hid hn
  clear hn
  have X_0 := Lib.hid (Sl.of_own ho)
  have Ht0 := Lib.hid hb0
  have hws := hb0.size
  clear ho hb0
  cases hq : T.hydRowOk xs with
  | false =>
    have Hq := Lib.hid hq
    clear hq
    have k1 := Lib.hid (impl_HydraOf (some ⟨g, 0, none⟩) n c xs w1 X_0.out)
    unfold OrdOkPost at k1
    rw [Hq.out, of_no Hq.out] at k1
    go_wp2_with fail
    refine (k1.out).mono ?_
    rintro ee w101 ⟨aA, cA, rfl, ho, hb1⟩
    have Ht1 := Lib.hid (Ht0.out.trans (hb1.mono (by have h1 := Ht0.out.size; omega)))
    have X_1 := Lib.hid (X_0.out.below hb1)
    have A_1 := Lib.hid (Sl.of_own ho)
    clear hb1 ho
    have k2 := Lib.hid (spec_HydraOf (some ⟨g, 0, none⟩) n c xs w101 X_1.out)
    unfold OrdOkPost at k2
    rw [Hq.out, of_no Hq.out] at k2
    go_wp2_with fail
    refine (k2.out).mono ?_
    rintro ee w102 ⟨aC, cC, rfl, ho, hb2⟩
    have Ht2 := Lib.hid (Ht1.out.trans (hb2.mono (by have h1 := Ht1.out.size; omega)))
    have X_2 := Lib.hid (X_1.out.below hb2)
    have A_2 := Lib.hid (A_1.out.below hb2)
    have C_2 := Lib.hid (Sl.of_own ho)
    clear hb2 ho
    have k3 := Lib.hid (sameInts_any aA aC 0 cA 0 cC ([] : List Int) ([] : List Int) w102 (by omega) A_2.out C_2.out)
    rw [eqB_refl] at k3
    go_wp2_with fail
    refine (k3.out).mono ?_
    rintro ee w103 ⟨rfl, hb3⟩
    have Ht3 := Lib.hid (Ht2.out.trans (hb3.mono (by have h1 := Ht2.out.size; omega)))
    have X_3 := Lib.hid (X_2.out.below hb3)
    have A_3 := Lib.hid (A_2.out.below hb3)
    have C_3 := Lib.hid (C_2.out.below hb3)
    clear hb3
    have k4 := Lib.hid (alive_any w103)
    go_wp2_with fail
    refine (k4.out).mono ?_
    rintro ee w104 ⟨rfl, hb4⟩
    have Ht4 := Lib.hid (Ht3.out.trans (hb4.mono (by have h1 := Ht3.out.size; omega)))
    have X_4 := Lib.hid (X_3.out.below hb4)
    have A_4 := Lib.hid (A_3.out.below hb4)
    have C_4 := Lib.hid (C_3.out.below hb4)
    clear hb4
    go_wp2_with fail
    go_ret
    exact ⟨rfl, Ht4.out⟩
  | true =>
    obtain ⟨m, hm⟩ : ∃ m : Nat, m = len2 % 3 := ⟨_, rfl⟩
    have htm : ((len2 : Nat) : Int).tmod 3 = (m : Int) := by rw [Int.tmod_eq_emod_of_nonneg (by omega)]; omega
    have hm3 : m ≤ 2 := by omega
    clear hm
    obtain ⟨q, hqq⟩ : ∃ q : Int, q = 1 + (m : Int) := ⟨_, rfl⟩
    obtain ⟨hv, hhv, hpo, hord, hst, hcn⟩ := T.of_facts (n := q) hq (by omega)
    rw [hqq] at hst hcn
    clear hqq q
    obtain ⟨r, hr⟩ : ∃ r, r = T.hydRow xs := ⟨_, rfl⟩
    rw [← hr] at hhv hpo hord hst hcn
    obtain ⟨hd, hhd⟩ : ∃ hd, hd = H.headsRow r := ⟨_, rfl⟩
    rw [← hhd] at hst hcn
    have hrl := H.hv_len hhv
    have hr60 : r.length ≤ 60 := hrl.2
    have hhb := hof_bnd r
    rw [← hhd] at hhb
    obtain ⟨cc, hcc⟩ : ∃ cc, cc = H.cutOkB r (hd - 1) (1 + (m : Int)) := ⟨_, rfl⟩
    obtain ⟨cr, hcr⟩ : ∃ cr, cr = H.cutRow r (hd - 1) (1 + (m : Int)) := ⟨_, rfl⟩
    obtain ⟨p, hp⟩ : ∃ p, p = T.stepOk xs (1 + (m : Int)) := ⟨_, rfl⟩
    obtain ⟨s, hs⟩ : ∃ s, s = T.stepRow xs (1 + (m : Int)) := ⟨_, rfl⟩
    rw [← hcc, ← hcr, ← hp, ← hs] at hst
    rw [← hcc] at hcn
    have hcrl : cr.length ≤ 1000 := by rw [hcr]; exact H.cutRow_len _ _ _
    have hsl : s.length ≤ 1000 := by rw [hs]; exact T.stepRow_len _ _
    obtain ⟨u, hu⟩ : ∃ u, u = H.ordRowOk cr := ⟨_, rfl⟩
    obtain ⟨o, ho⟩ : ∃ o, o = H.ordRow cr := ⟨_, rfl⟩
    rw [← hu, ← ho] at hst
    have hol : o.length ≤ 1000 := by rw [ho]; exact H.ordRow_len _
    have Hq := Lib.hid hq
    have Hr := Lib.hid hr
    have Hhv := Lib.hid hhv
    have Hpo := Lib.hid hpo
    have Hord := Lib.hid hord
    have Hst := Lib.hid hst
    have Hhd := Lib.hid hhd
    have Hcc := Lib.hid hcc
    have Hcr := Lib.hid hcr
    have Hp := Lib.hid hp
    have Hs := Lib.hid hs
    have Hu := Lib.hid hu
    have Ho := Lib.hid ho
    have Hcn := Lib.hid (show cc = false → n = 1 ∨ 1 < 1 + (m : Int) from fun h => by rcases hcn h with h1 | h1; exact .inl (by have := Hn.out; omega); exact .inr h1)
    obtain ⟨hhb1, hhb2⟩ := hhb
    clear hq hr hhv hpo hord hst hhd hcc hcr hp hs hu ho hcn hrl hv
    have k5 := Lib.hid (impl_HydraOf (some ⟨g, 0, none⟩) n c xs w1 X_0.out)
    unfold OrdOkPost at k5
    rw [Hq.out, ← Hr.out] at k5
    go_wp2_with fail
    refine (k5.out).mono ?_
    rintro ee w105 ⟨aA, cA, rfl, ho, hb5⟩
    have Ht5 := Lib.hid (Ht0.out.trans (hb5.mono (by have h1 := Ht0.out.size; omega)))
    have X_5 := Lib.hid (X_0.out.below hb5)
    have A_5 := Lib.hid (Sl.of_own ho)
    clear hb5 ho
    have k6 := Lib.hid (spec_HydraOf (some ⟨g, 0, none⟩) n c xs w105 X_5.out)
    unfold OrdOkPost at k6
    rw [Hq.out, ← Hr.out] at k6
    go_wp2_with fail
    refine (k6.out).mono ?_
    rintro ee w106 ⟨aC, cC, rfl, ho, hb6⟩
    have Ht6 := Lib.hid (Ht5.out.trans (hb6.mono (by have h1 := Ht5.out.size; omega)))
    have X_6 := Lib.hid (X_5.out.below hb6)
    have A_6 := Lib.hid (A_5.out.below hb6)
    have C_6 := Lib.hid (Sl.of_own ho)
    clear hb6 ho
    have k7 := Lib.hid (sameInts_any aA aC r.length cA r.length cC r r w106 (by omega) A_6.out C_6.out)
    rw [eqB_refl] at k7
    go_wp2_with fail
    refine (k7.out).mono ?_
    rintro ee w107 ⟨rfl, hb7⟩
    have Ht7 := Lib.hid (Ht6.out.trans (hb7.mono (by have h1 := Ht6.out.size; omega)))
    have X_7 := Lib.hid (X_6.out.below hb7)
    have A_7 := Lib.hid (A_6.out.below hb7)
    have C_7 := Lib.hid (C_6.out.below hb7)
    clear hb7
    have k8 := Lib.hid (impl_HydraHeads_b aA r.length cA r w107 A_7.out)
    rw [← Hhd.out] at k8
    go_wp2_with fail
    refine (k8.out).mono ?_
    rintro ee w108 ⟨rfl, hb8⟩
    have Ht8 := Lib.hid (Ht7.out.trans (hb8.mono (by have h1 := Ht7.out.size; omega)))
    have X_8 := Lib.hid (X_7.out.below hb8)
    have A_8 := Lib.hid (A_7.out.below hb8)
    have C_8 := Lib.hid (C_7.out.below hb8)
    clear hb8
    have k9 := Lib.hid (impl_HydraCut aA r.length cA r (hd - 1) (1 + (m : Int)) w108 A_8.out)
    unfold OrdOkPost at k9
    rw [← Hcc.out, ← Hcr.out] at k9
    go_wp2_with fail
    refine (k9.out).mono ?_
    rintro ee w109 ⟨aK, cK, rfl, ho, hb9⟩
    have Ht9 := Lib.hid (Ht8.out.trans (hb9.mono (by have h1 := Ht8.out.size; omega)))
    have X_9 := Lib.hid (X_8.out.below hb9)
    have A_9 := Lib.hid (A_8.out.below hb9)
    have C_9 := Lib.hid (C_8.out.below hb9)
    have K_9 := Lib.hid (Sl.of_own ho)
    clear hb9 ho
    have k10 := Lib.hid (impl_OrdStep (some ⟨g, 0, none⟩) n c xs (1 + (m : Int)) w109 X_9.out (by omega) (by omega))
    unfold OrdOkPost at k10
    rw [← Hp.out, ← Hs.out] at k10
    go_wp2_with fail
    refine (k10.out).mono ?_
    rintro ee w110 ⟨aS, cS, rfl, ho, hb10⟩
    have Ht10 := Lib.hid (Ht9.out.trans (hb10.mono (by have h1 := Ht9.out.size; omega)))
    have X_10 := Lib.hid (X_9.out.below hb10)
    have A_10 := Lib.hid (A_9.out.below hb10)
    have C_10 := Lib.hid (C_9.out.below hb10)
    have K_10 := Lib.hid (K_9.out.below hb10)
    have S_10 := Lib.hid (Sl.of_own ho)
    clear hb10 ho
    have k11 := Lib.hid (impl_HydraOrd aK cr.length cK cr w110 K_10.out)
    unfold OrdOkPost at k11
    rw [← Hu.out, ← Ho.out] at k11
    go_wp2_with fail
    refine (k11.out).mono ?_
    rintro ee w111 ⟨aU, cU, rfl, ho, hb11⟩
    have Ht11 := Lib.hid (Ht10.out.trans (hb11.mono (by have h1 := Ht10.out.size; omega)))
    have X_11 := Lib.hid (X_10.out.below hb11)
    have A_11 := Lib.hid (A_10.out.below hb11)
    have C_11 := Lib.hid (C_10.out.below hb11)
    have K_11 := Lib.hid (K_10.out.below hb11)
    have S_11 := Lib.hid (S_10.out.below hb11)
    have U_11 := Lib.hid (Sl.of_own ho)
    clear hb11 ho
    have k12 := Lib.hid (impl_HydraOrd aA r.length cA r w111 A_11.out)
    unfold OrdOkPost at k12
    rw [Hpo.out, Hord.out] at k12
    go_wp2_with fail
    refine (k12.out).mono ?_
    rintro ee w112 ⟨aZ, cZ, rfl, ho, hb12⟩
    have Ht12 := Lib.hid (Ht11.out.trans (hb12.mono (by have h1 := Ht11.out.size; omega)))
    have X_12 := Lib.hid (X_11.out.below hb12)
    have A_12 := Lib.hid (A_11.out.below hb12)
    have C_12 := Lib.hid (C_11.out.below hb12)
    have K_12 := Lib.hid (K_11.out.below hb12)
    have S_12 := Lib.hid (S_11.out.below hb12)
    have U_12 := Lib.hid (U_11.out.below hb12)
    have Z_12 := Lib.hid (Sl.of_own ho)
    clear hb12 ho
    have k13 := Lib.hid (impl_HydraValid_b aA r.length cA r w112 A_12.out)
    rw [Hhv.out] at k13
    go_wp2_with fail
    refine (k13.out).mono ?_
    rintro ee w113 ⟨rfl, hb13⟩
    have Ht13 := Lib.hid (Ht12.out.trans (hb13.mono (by have h1 := Ht12.out.size; omega)))
    have X_13 := Lib.hid (X_12.out.below hb13)
    have A_13 := Lib.hid (A_12.out.below hb13)
    have C_13 := Lib.hid (C_12.out.below hb13)
    have K_13 := Lib.hid (K_12.out.below hb13)
    have S_13 := Lib.hid (S_12.out.below hb13)
    have U_13 := Lib.hid (U_12.out.below hb13)
    have Z_13 := Lib.hid (Z_12.out.below hb13)
    clear hb13
    have hxl : xs.length ≤ 1000 := by have := Hn.out; omega
    have k14 := Lib.hid (sameInts_any aZ (some ⟨g, 0, none⟩) xs.length cZ n c xs xs w113 (by omega) Z_13.out X_13.out)
    rw [eqB_refl] at k14
    go_wp2_with fail
    refine (k14.out).mono ?_
    rintro ee w114 ⟨rfl, hb14⟩
    have Ht14 := Lib.hid (Ht13.out.trans (hb14.mono (by have h1 := Ht13.out.size; omega)))
    have X_14 := Lib.hid (X_13.out.below hb14)
    have A_14 := Lib.hid (A_13.out.below hb14)
    have C_14 := Lib.hid (C_13.out.below hb14)
    have K_14 := Lib.hid (K_13.out.below hb14)
    have S_14 := Lib.hid (S_13.out.below hb14)
    have U_14 := Lib.hid (U_13.out.below hb14)
    have Z_14 := Lib.hid (Z_13.out.below hb14)
    clear hb14
    cases cc with
    | false =>
      rcases Hcn.out rfl with hc1 | hc1
      · have hc2 : ((n : Int) == 1) = true := by simp; omega
        clear hc1
        go_wp2_with fail
        go_ret
        exact ⟨rfl, Ht14.out⟩
      · by_cases hc3 : n = 1
        · have hc2 : ((n : Int) == 1) = true := by simp; omega
          clear hc3
          go_wp2_with fail
          go_ret
          exact ⟨rfl, Ht14.out⟩
        · have hc2 : ((n : Int) == 1) = false := by simp; omega
          clear hc3
          go_wp2_with fail
          go_ret
          exact ⟨rfl, Ht14.out⟩
    | true =>
      cases p with
      | false =>
        go_wp2_with fail
        go_ret
        exact ⟨rfl, Ht14.out⟩
      | true =>
        cases u with
        | false =>
          go_wp2_with fail
          go_ret
          exact ⟨rfl, Ht14.out⟩
        | true =>
          have Hos := Lib.hid (show eqB o s = true by rw [Hst.out rfl rfl rfl]; exact eqB_refl _)
          have k15 := Lib.hid (sameInts_any aU aS o.length cU s.length cS o s w114 (by omega) U_14.out S_14.out)
          rw [Hos.out] at k15
          go_wp2_with fail
          refine (k15.out).mono ?_
          rintro ee w115 ⟨rfl, hb15⟩
          have Ht15 := Lib.hid (Ht14.out.trans (hb15.mono (by have h1 := Ht14.out.size; omega)))
          have X_15 := Lib.hid (X_14.out.below hb15)
          have A_15 := Lib.hid (A_14.out.below hb15)
          have C_15 := Lib.hid (C_14.out.below hb15)
          have K_15 := Lib.hid (K_14.out.below hb15)
          have S_15 := Lib.hid (S_14.out.below hb15)
          have U_15 := Lib.hid (U_14.out.below hb15)
          have Z_15 := Lib.hid (Z_14.out.below hb15)
          clear hb15
          go_wp2_with fail
          go_ret
          exact ⟨rfl, Ht15.out⟩

end Go.Proofs.Ytlbaelehmoidpaa

/- HydraOf, the program's. -/
import Derived.Test.YtigkceenhocidaaHydO
import Derived.Test.YtigkceenhocidaaTermsB
import Derived.Test.YtigkceenhocidaaPost
import Derived.Test.YtigkceenhocidaaMost
import Derived.Deep.RegionHeld3
namespace Go.Proofs.Ytigkceenhocidaa
set_option maxRecDepth 100000
open Go.RowKit

theorem At.back {w w' : World} {B b off : Nat} {xs : List Int} (h : At w' b off xs) (hb : Below B w w') (hB : b < B) : At w b off xs := by
  intro j hj
  rw [← hb.cell (p := ⟨b, off + j, none⟩) hB]
  exact h j hj

theorem set_zero (x y : Int) (xs : List Int) : (ints (x :: xs)).set 0 (.int .i64 y) = ints (y :: xs) := rfl

def OfRel (w : World) (t : T) (cn g : Nat) (cs : List Value) (v4 v16 : Value) (wr : World) : Prop :=
  ∃ (i m g4 c4 : Nat) (d u : T), i ≤ cn ∧ Hid (d.app u = t ∧ d.cnt = i ∧ i + u.cnt = cn) ∧ v16 = .int .i64 i ∧ m = (T.hyd d).enc.length ∧ m ≤ 60 ∧ v4 = .slice (some ⟨g4, 0, none⟩) m c4 ∧
    wr.ownsRow w.heap.size 3 1 v4 m (ints (T.hyd d).enc) ∧ wr.ownsRow w.heap.size 46 2 (.slice (some ⟨g, 0, none⟩) cn cn) cn cs ∧ Below w.heap.size w wr

set_option maxHeartbeats 4000000 in
theorem impl_hydraOf (N : Nat) : ∀ (b off n cap : Nat) (t : T) (w : World), t.body.length < N → n = t.enc.length → n ≤ 60 → n ≤ cap → cap ≤ maxLen → At w b off t.enc → t.Nf →
    Calls Try.prog 28 #[.slice (some ⟨b, off, none⟩) n cap] w (OrdOkPost w (T.hydFit t) (T.hydOk t)) := by
  induction N with
  | zero => intro b off n cap t w h; omega
  | succ N ih =>
    intro b off n cap t w hN hn hb hc hm hat hnf
    obtain ⟨i0, hi, hz0, hz1, hz2⟩ := info_parts info_int
    have IH := Lib.hid ih
    have HA := Lib.hid hat
    have Hn := Lib.hid hn
    have HN := Lib.hid hN
    have HF := Lib.hid hnf
    have hbl : b < w.heap.size := hat.lt (T.enc_ne t)
    have k1 := Lib.hid (impl_valid (some ⟨b, off, none⟩) n cap t.enc w ⟨hn.symm, hc, hm, fun _ => ⟨b, off, rfl, hat⟩⟩ (T.vld_mk hnf (by omega)))
    have hct := T.cnt_le t
    have hel := T.enc_len t
    obtain ⟨rf, hrf⟩ : ∃ rf, rf = T.hydFit t := ⟨_, rfl⟩
    obtain ⟨ro, hro⟩ : ∃ ro, ro = T.hydOk t := ⟨_, rfl⟩
    rw [← hrf, ← hro]
    have hnil : T.hydOk t = false → ∀ wx, Below w.heap.size w wx → OrdOkPost w rf ro (.returned (.tuple #[.slice none 0 0, .bool false])) wx := by
      intro h wx hbx
      rw [hrf, hro, T.hydFit_no h, h]
      exact OrdOkPost.nil (nil_own w wx) hbx
    have hyes : T.hydOk t = true → ∀ wx a c, wx.ownsRow w.heap.size 3 1 (.slice a (T.hyd t).enc.length c) (T.hyd t).enc.length (ints (T.hyd t).enc) → Below w.heap.size w wx → OrdOkPost w rf ro (.returned (.tuple #[.slice a (T.hyd t).enc.length c, .bool true])) wx := by
      intro h wx a c ho hbx
      rw [hrf, hro, T.hydFit_yes h, h]
      exact ⟨a, c, rfl, ho, hbx⟩
    have Hnil := Lib.hid hnil
    have Hyes := Lib.hid hyes
    clear ih hN hn hat hnf hnil hyes hrf hro
    go_enter Try.func28, Try.ntmps28
    go_wp2_with fail
    refine (k1.out).mono ?_
    rintro ee w0 ⟨rfl, hb0⟩
    obtain ⟨W1, hW1⟩ : ∃ W1, W1 = w0.alloc (.cells #[.int .i64 0] 3) := ⟨_, rfl⟩
    have hb1 : Below w.heap.size w W1 := by rw [hW1]; exact hb0.alloc hb0.size _
    have ho1 : W1.ownsRow w.heap.size 3 1 (.slice (some ⟨w0.heap.size, 0, none⟩) 1 1) 1 (ints (T.hyd .z).enc) := by
      rw [hW1]; exact World.ownsRow_lit w0 #[.int .i64 0] 1 hb0.size (by simp [maxLen]) rfl
    have kt := Lib.hid (termsOf_in b off n cap t.enc t W1 Hn.out.symm (by omega) hc hm (HA.out.below hb1 hbl) rfl)
    have HW1 := Lib.hid hW1.symm
    have Hb1 := Lib.hid hb1
    have Ho1 := Lib.hid ho1
    clear hb0 hW1 hb1 ho1
    go_wp2_with fail
    rw [HW1.out]
    refine (kt.out).mono ?_
    rintro ee w2 ⟨cs, rfl, ho, hT, hb2⟩
    obtain ⟨cn, hcn⟩ : ∃ cn, cn = t.cnt := ⟨_, rfl⟩
    rw [← hcn] at ho ⊢
    have hcb : cn ≤ 60 := by have := Hn.out; omega
    obtain ⟨g, hg⟩ : ∃ g, g = W1.heap.size := ⟨_, rfl⟩
    rw [← hg] at ho ⊢
    have hst : OfRel w t cn g cs (.slice (some ⟨w0.heap.size, 0, none⟩) 1 1) (.int .i64 ((0 : Nat) : Int)) w2 :=
      ⟨0, 1, w0.heap.size, 1, .z, t, Nat.zero_le _, ⟨rfl, rfl, by omega⟩, rfl, rfl, by decide, rfl, ownsRow_below' Ho1.out hb2, Joins.ownsRow_le ho (by rw [hg]; exact Hb1.out.size), Hb1.out.trans (hb2.mono Hb1.out.size)⟩
    have Hst := Lib.hid hst
    have HT := Lib.hid hT
    have Hcn := Lib.hid hcn
    clear hcn hg ho hb2 hst hT
    go_wp2_with fail
    go_loopw [4, 16] (fun v4 v16 wr => OfRel w t cn g cs v4 v16 wr) (fun _ i _ => cn - (intOf i).toNat)
    case atStart => exact Hst.out
    case round =>
      obtain ⟨i, m, g4, c4, d, u, hi1, HU, rfl, hm1, hm60, rfl, ho, hot, hbr⟩ := hrel
      obtain ⟨h1, h2, h3⟩ := HU.out
      have Hm := Lib.hid hm1
      by_cases hlt : i < cn
      · obtain ⟨x, e, r, rfl⟩ : ∃ x e r, u = .c x e r := T.cnt_pos (by omega)
        obtain ⟨hx1, hx2, hne⟩ := T.part_nf h1 HF.out
        obtain ⟨xn, rfl⟩ := Int.eq_ofNat_of_zero_le (show 0 ≤ x by omega)
        obtain ⟨oe, ce, p1, p2, p3, p4, p5⟩ := HT.out.pick h1 h2
        have y0 : wr.cell? ⟨g, i * 2, none⟩ = some (.int .i64 xn) := (hot.cellAt (i * 2) (by omega)).trans (by rw [Nat.mul_comm]; exact p1)
        have y1 : wr.cell? ⟨g, i * 2 + 1, none⟩ = some (.slice (some ⟨b, oe, none⟩) e.enc.length ce) := (hot.cellAt (i * 2 + 1) (by omega)).trans (by rw [Nat.mul_comm]; exact p2)
        have hpl := T.part_len h1
        have hpart := T.hyd_part h1
        have hbad : T.hydOk e = false → T.hydOk t = false := fun h => T.hyd_bad h1 (by omega) h
        obtain ⟨W, hW⟩ : ∃ W, W = wr.alloc (.cells #[.int .i64 xn, .slice (some ⟨b, oe, none⟩) e.enc.length ce] 46) := ⟨_, rfl⟩
        have hbW : Below w.heap.size w W := by rw [hW]; exact hbr.alloc hbr.size _
        have z0 : W.cell? ⟨wr.heap.size, 0, none⟩ = some (.int .i64 xn) := by rw [hW, Joins.cell_alloc_mark_at _ _ _ _ _ _ rfl]; rfl
        have z1 : W.cell? ⟨wr.heap.size, 1, none⟩ = some (.slice (some ⟨b, oe, none⟩) e.enc.length ce) := by rw [hW, Joins.cell_alloc_mark_at _ _ _ _ _ _ rfl]; rfl
        have hwl : wr.heap.size < W.heap.size := by rw [hW]; simp
        have hoW : W.ownsRow w.heap.size 3 1 (.slice (some ⟨g4, 0, none⟩) m c4) m (ints (T.hyd d).enc) := by rw [hW]; exact ho.alloc _
        have hotW : W.ownsRow w.heap.size 46 2 (.slice (some ⟨g, 0, none⟩) cn cn) cn cs := by rw [hW]; exact hot.alloc _
        have hatW : At W b oe e.enc := (p3.back Hb1.out hbl).below hbW hbl
        have kt2 := Lib.hid (IH.out b oe e.enc.length ce e W (by have := HN.out; omega) rfl (by have := Hn.out; omega) p4 p5 hatW hne)
        have HW := Lib.hid hW.symm
        have HbW := Lib.hid hbW
        have HoW := Lib.hid hoW
        have HotW := Lib.hid hotW
        have Z0 := Lib.hid z0
        unfold OrdOkPost at kt2
        rcases T.hydOk_tf e with hk | hk
        · rw [T.hydFit_yes hk, hk] at kt2
          have hL1 := T.hyd_len_pos e
          have hL60 := T.hydOk_true.1 hk
          obtain ⟨L, hL⟩ : ∃ L, L = (T.hyd e).enc.length := ⟨_, rfl⟩
          obtain ⟨Y, hY⟩ : ∃ Y, Y = L * xn := ⟨_, rfl⟩
          rw [← hL, show ((xn : Nat) : Int).toNat = xn from rfl, ← hY, ← hm1] at hpart
          rw [← hL] at kt2 hL1 hL60
          have hYb : Y ≤ 600000 := by rw [hY]; have := Nat.mul_le_mul hL60 (show xn ≤ 9999 by omega); omega
          have hYx : xn ≤ Y := by rw [hY]; have := Nat.mul_le_mul hL1 (Nat.le_refl xn); omega
          have hwY : IntKind.i64.wrap ((xn : Int) * (L : Int)) = (Y : Int) := by
            rw [hY, Nat.mul_comm, Int.natCast_mul]
            exact IntWalk.i64_in _ (by rw [← Int.natCast_mul, Nat.mul_comm, ← hY]; omega)
          have hg4 : g4 < wr.heap.size := (ho.lt g4 rfl).2
          have hg4w : w.heap.size ≤ g4 := (ho.lt g4 rfl).1
          have HL := Lib.hid hL
          have HY := Lib.hid hY
          have hd0 : (T.hyd d).enc = ((T.hyd d).cnt : Int) :: (T.hyd d).body := rfl
          obtain ⟨D, hD⟩ : ∃ D, D = (T.hyd d).cnt := ⟨_, rfl⟩
          have hD60 : D ≤ 60 := by have := H.cnt_le (T.hyd d); have := H.enc_len (T.hyd d); omega
          have HD := Lib.hid hD
          clear hL hY hD h1 h2 h3 p1 p2 p3 p4 p5 hbW hatW hbr hW hpl hbad ho hot hoW hotW hm1 z0 z1
          go_wp2_with fail
          rw [HW.out]
          refine (kt2.out).mono ?_
          rintro ee w3 ⟨a8, c8, rfl, ho8, hb3⟩
          have Hb3 := Lib.hid (HbW.out.trans (hb3.mono HbW.out.size))
          have zb : w3.cell? ⟨wr.heap.size, 0, none⟩ = some (.int .i64 xn) := (hb3.cell (p := ⟨wr.heap.size, 0, none⟩) hwl).trans Z0.out
          have ho3 := ownsRow_below' HoW.out hb3
          have hot3 := ownsRow_below' HotW.out hb3
          have Ho3 := Lib.hid ho3
          have Hot3 := Lib.hid hot3
          have Ho8 := Lib.hid ho8
          by_cases hsum : 60 < m + Y
          · have hts := T.hydOk_false.2 (show 60 < (T.hyd t).enc.length by omega)
            have Hts := Lib.hid hts
            clear hts ho3 hot3 ho8 hb3 hpart
            go_wp2_with fail
            go_ret2
            exact Hnil.out Hts.out _ Hb3.out
          · have zh : w3.cell? ⟨g4, 0, none⟩ = some (.int .i64 D) := by
              rw [ho3.cellAt 0 (by have := H.enc_len (T.hyd d); have := Hm.out; omega), hd0, HD.out]; rfl
            have fh := ho3.frozenAt 0
            have hm0 : 0 < m := by have := H.enc_len (T.hyd d); have := Hm.out; omega
            clear ho3 hot3 ho8 hb3 hpart
            go_wp2_with fail
            go_region
            obtain ⟨W4, hW4⟩ : ∃ W4, W4 = (w3.setCell ⟨g4, 0, none⟩ (.int .i64 ((D : Int) + (xn : Int)))).drew := ⟨_, rfl⟩
            have hst0 := Ho3.out.stored 0 (.int .i64 ((D : Int) + (xn : Int)))
            rw [hd0, set_zero] at hst0
            have hgr : w3.grownBy W4 (some g4) := by rw [hW4]; have h := hst0.2; exact ⟨h.os, h.tape, h.output, h.size, h.block⟩
            have ho4 : W4.ownsRow w.heap.size 3 1 (.slice (some ⟨g4, 0, none⟩) m c4) m (ints (((D : Int) + (xn : Int)) :: (T.hyd d).body)) := by rw [hW4]; exact hst0.1.drew
            have hot4 : W4.ownsRow w.heap.size 46 2 (.slice (some ⟨g, 0, none⟩) cn cn) cn cs := Hot3.out.kept hgr (own_ne Hot3.out Ho3.out (by decide))
            have hb4 : Below w.heap.size w W4 := by rw [hW4]; exact (Hb3.out.setCell (p := ⟨g4, 0, none⟩) hg4w _).drew
            have zb4 : W4.cell? ⟨wr.heap.size, 0, none⟩ = some (.int .i64 xn) := hgr.cell zb (by simp; omega)
            have ho84 : W4.ownsRow W.heap.size 3 1 (.slice a8 L c8) L (ints (T.hyd e).enc) := Ho8.out.kept hgr (.inr (fun he => by have := (Ho8.out.lt g4 he).1; omega))
            obtain ⟨g8, c8', hv8⟩ := Joins.ownsRow_form ho84 (by omega)
            simp only [Value.slice.injEq, true_and] at hv8
            obtain ⟨rfl, rfl⟩ := hv8
            obtain ⟨q1, q2, q3, q4⟩ := Sl.of_own ho84
            obtain ⟨b8, o8, q5, q6⟩ := q4 (by omega)
            cases q5
            have hYs : Y ≤ 60 := by omega
            have kr := Lib.hid (repeatI_any g8 0 L c8 xn (T.hyd e).enc W4 q1 hL1 (by omega) (by rw [← HY.out]; omega) q6)
            rw [← HY.out] at kr
            have HW4 := Lib.hid hW4.symm
            have Ho4 := Lib.hid ho4
            have Hot4 := Lib.hid hot4
            have Hb4 := Lib.hid hb4
            have hs4 := hb4.size
            clear hW4 hst0 hgr ho4 hot4 hb4 ho84 q1 q2 q3 q4 q6 zb zh fh
            rw [HW4.out]
            go_wp2_with fail
            refine (kr.out).mono ?_
            rintro ee w5 ⟨rfl, ho5, hb5⟩
            have Ho45 := Lib.hid (ownsRow_below' Ho4.out hb5)
            have Hot5 := Lib.hid (ownsRow_below' Hot4.out hb5)
            have Hb5 := Lib.hid (Hb4.out.trans (hb5.mono hs4))
            have hs5 := hb5.size
            have Hn5 := Lib.hid (show ∀ j u, (ints (Rp xn (T.hyd e).enc))[j]? = some u → w5.cell? ((⟨W4.heap.size, 0, none⟩ : Addr).add j) = some u from fun j u hj => by
              have h9 := ho5.cells (g := W4.heap.size) rfl j u hj
              exact h9)
            have Hl5 := Lib.hid (show (ints (Rp xn (T.hyd e).enc)).length = Y * 1 by have := ho5.1; exact this)
            clear ho5 hb5
            go_wp2_with (first
              | (at_builtin; refine wpList_append_own _ rfl (.tmp 46) (.tmp 50) 22 rfl w.heap.size 3 i0 (.int .i64 0) 1 8 Try.underlying22 hi hz0 hz1 hz2 rfl (by decide) _ _ _ rfl Ho45.out ⟨W4.heap.size, 0, none⟩ Y Y (ints (Rp xn (T.hyd e).enc)) rfl Hl5.out Hn5.out (ints_one _) (by unfold maxLen; omega) (by omega) (by omega) ?_; intro v6 w6 ho6 hg6 _))
            obtain ⟨g6, c6, rfl⟩ := Joins.ownsRow_form ho6 (by omega)
            have hfin : OfRel w t cn g cs (.slice (some ⟨g6, 0, none⟩) (m + Y) c6) (.int .i64 ((i + 1 : Nat) : Int)) w6 := by
              obtain ⟨h1, h2, h3⟩ := HU.out
              have hln : m + Y = (T.hyd (d.app (.c xn e .z))).enc.length := by
                rw [T.hyd_snoc_len, ← HL.out, show ((xn : Nat) : Int).toNat = xn from rfl, ← HY.out, ← Hm.out]
              refine ⟨i + 1, m + Y, g6, c6, d.app (.c xn e .z), r, by omega, ⟨by rw [T.app_assoc]; exact h1, by rw [T.app_cnt, h2]; rfl, by simp only [T.cnt] at h3; omega⟩, rfl, hln, by omega, rfl, ?_, Hot5.out.kept hg6 (own_ne Hot5.out Ho45.out (by decide)), Hb5.out.grown hg6 (by omega) (fun k hk => (Ho45.out.lt k hk).1)⟩
              rw [T.hyd_snoc_enc, show ((xn : Nat) : Int).toNat = xn from rfl, ← HD.out]
              have e1 : ints (((D + xn : Nat) : Int) :: ((T.hyd d).body ++ Rp xn (T.hyd e).enc)) = ints (((D : Int) + (xn : Int)) :: (T.hyd d).body) ++ ints (Rp xn (T.hyd e).enc) := by
                simp [ints]
              rw [e1]
              exact ho6
            have Hfin := Lib.hid hfin
            clear ho6 hg6 hfin
            go_wp2_with fail
            go_roundw
            case rel => exact Hfin.out
            case measure => simp [intOf]; omega
        · rw [T.hydFit_no hk, hk] at kt2
          have Hts := Lib.hid (hbad hk)
          clear h1 h2 h3 p1 p2 p3 p4 p5 hbW hatW hbr hW hpl hbad ho hot hoW hotW hm1 z0 z1 hpart
          go_wp2_with fail
          rw [HW.out]
          refine (kt2.out).mono ?_
          rintro ee w3 ⟨a8, c8, rfl, ho8, hb3⟩
          have Hb3 := Lib.hid (HbW.out.trans (hb3.mono HbW.out.size))
          clear ho8 hb3
          go_wp2_with fail
          go_ret2
          exact Hnil.out Hts.out _ Hb3.out
      · have hu : u = .z := T.cnt_zero (by omega)
        subst hu
        have hdt : d = t := by rw [T.app_z] at h1; exact h1
        subst hdt
        subst hm1
        have Ho := Lib.hid ho
        have Hbr := Lib.hid hbr
        clear h1 h2 h3 ho hot hbr
        go_wp2_with fail
        go_ret2
        exact Hyes.out (T.hydOk_true.2 hm60) _ _ _ Ho.out Hbr.out

theorem impl_HydraOf (ao : Option Addr) (len cap : Nat) (xs : List Int) (w : World) (h : Sl w ao len cap xs) :
    Calls Try.prog 28 #[.slice ao len cap] w (OrdOkPost w (T.hydRow xs) (T.hydRowOk xs)) := by
  rcases vld_tf xs with h1 | h1
  · have h2 := h
    obtain ⟨b, off, t, rfl, rfl, hs, hos, hat, hn, hl, hp, hc, hm⟩ := h2.valid h1
    have hnf : t.Nf := by
      obtain ⟨_, t', he, hn'⟩ := T.vldB_true.1 h1
      rw [T.enc_inj' he]; exact hn'
    rw [T.hydRow, if_pos h1, T.hydRowOk, h1, hos, Bool.true_and]
    exact impl_hydraOf (t.body.length + 1) b off len cap t w (by omega) hn (by omega) hc hm hat hnf
  · have k1 := Lib.hid (impl_valid ao len cap xs w h h1)
    rw [T.hydRow, if_neg (by rw [h1]; simp), T.hydRowOk, h1, Bool.false_and]
    clear h h1
    go_enter Try.func28, Try.ntmps28
    go_wp2_with fail
    refine (k1.out).mono ?_
    rintro ee w1 ⟨rfl, hb1⟩
    have Hb1 := Lib.hid hb1
    clear hb1
    go_wp2_with fail
    go_ret2
    exact OrdOkPost.nil (nil_own w w1) Hb1.out

end Go.Proofs.Ytigkceenhocidaa

/- HydraOf, the model's. -/
import Derived.Test.YtigkceenhocidaaHydO
import Derived.Test.YtigkceenhocidaaHydG
import Derived.Test.YtigkceenhocidaaPost
import Derived.Test.YtigkceenhocidaaMost
namespace Go.Proofs.Ytigkceenhocidaa
set_option maxRecDepth 100000
open Go.RowKit

/-- How things stand behind the terms d, with so many branches of the next one. -/
def QRel (w : World) (t d e : T) (j lg n : Nat) (a5 : Option Addr) (c5 : Nat) (wr : World) : Prop :=
  lg ≤ 200 ∧ n ≤ lg ∧ ((60 < lg ∧ T.hydOk t = false) ∨ ∃ (f : H) (es : List Value), n = f.cnt ∧ wr.ownsRow w.heap.size 22 1 (.slice a5 n c5) n es ∧ HG wr w.heap.size f es ∧
    f = (T.hyd d).app (H.rep j (T.hyd e) .z) ∧ lg = f.enc.length)

theorem QRel.fin {w : World} {t : T} {lg n : Nat} {a5 : Option Addr} {c5 : Nat} {wr : World} (h : QRel w t t .z 0 lg n a5 c5 wr) :
    (60 < lg ∧ T.hydOk t = false) ∨ (lg ≤ 60 ∧ T.hydOk t = true ∧ Hs wr a5 n (T.hyd t)) := by
  obtain ⟨hl2, hnl, h1⟩ := h
  rcases h1 with h1 | ⟨f, es, hn, ho, hG, h1, h3⟩
  · exact .inl h1
  · simp only [H.rep, H.app_z] at h1
    subst h1
    by_cases h60 : lg ≤ 60
    · exact .inr ⟨h60, T.hydOk_true.2 (by omega), Hs.of_own ho hG.hc hn⟩
    · exact .inl ⟨by omega, T.hydOk_false.2 (by omega)⟩

/-- A term is done. -/
theorem QRel.next {w : World} {t d e r : T} {xn j lg n : Nat} {a5 : Option Addr} {c5 : Nat} {wr : World} (h : QRel w t d e j lg n a5 c5 wr) (h1 : d.app (.c xn e r) = t) (hj : j ≤ xn) (hx : j = xn ∨ 60 < lg) :
    QRel w t (d.app (.c xn e .z)) .z 0 lg n a5 c5 wr := by
  obtain ⟨hl2, hnl, h4⟩ := h
  refine ⟨hl2, hnl, ?_⟩
  rcases h4 with h4 | ⟨f, es, hn, ho, hG, h4, h5⟩
  · exact .inl h4
  · by_cases hjx : j = xn
    · right
      subst hjx
      refine ⟨f, es, hn, ho, hG, ?_, h5⟩
      rw [T.hyd_snoc]
      simp only [H.rep, H.app_z]
      exact h4
    · left
      have h6 : 60 < lg := by omega
      refine ⟨h6, T.hydOk_false.2 ?_⟩
      have h7 := T.hyd_part h1
      have h8 : lg = (T.hyd d).enc.length + (T.hyd e).enc.length * j := by
        rw [h5, h4, H.enc_len, H.app_body, H.rep_body, H.enc_len]
        simp [Rp_len, H.body]
        omega
      have h9 : (T.hyd e).enc.length * j ≤ (T.hyd e).enc.length * xn := Nat.mul_le_mul (Nat.le_refl _) hj
      have h10 : ((xn : Nat) : Int).toNat = xn := rfl
      rw [h10] at h7
      omega

/-- A branch more. -/
theorem QRel.more {w : World} {t d e : T} {j lg n c5 c6 c8 g8 : Nat} {a5 a6 : Option Addr} {wr w3 : World} (h : QRel w t d e j lg n a5 c5 wr) (hk : T.hydOk e = true) (h60 : lg ≤ 60) {o : Obj} {wa : World}
    (hga : wr.grownBy wa none) (hg3 : (wa.alloc o).grownBy w3 (Value.ownBlock (.slice a5 n c5)))
    (h8 : w3.ownsRow w.heap.size 3 1 (.slice (some ⟨g8, 0, none⟩) (T.hyd e).enc.length c8) (T.hyd e).enc.length (ints (T.hyd e).enc))
    (ho3 : ∀ es, wr.ownsRow w.heap.size 22 1 (.slice a5 n c5) n es → w3.ownsRow w.heap.size 22 1 (.slice a6 (n + 1) c6) (n + 1) (es ++ [.slice (some ⟨g8, 0, none⟩) (T.hyd e).enc.length c8])) :
    QRel w t d e (j + 1) (lg + (T.hyd e).enc.length) (n + 1) a6 c6 w3 := by
  obtain ⟨hl2, hnl, h4⟩ := h
  have hL := T.hydOk_true.1 hk
  have hp := T.hyd_len_pos e
  have hgB : wa.grownBy (wa.alloc o) none := World.grownBy_alloc wa o none
  refine ⟨by omega, by omega, ?_⟩
  rcases h4 with h4 | ⟨f, es, hn, ho, hG, h4, h5⟩
  · exact .inl ⟨by omega, h4.2⟩
  · have hoA := (ho.kept hga (by cases hv : Value.ownBlock (.slice a5 n c5) <;> simp)).alloc o
    have hG3 := ((hG.kept hga (fun k hk => by cases hk)).kept hgB (fun k hk => by cases hk)).kept hg3 (fun k hk => .inr (own_tag hoA k hk))
    refine .inr ⟨f.app (.c (T.hyd e) .z), _, by rw [H.app_cnt, hn]; rfl, ho3 es ho, hG3.snoc h8, ?_, ?_⟩
    · rw [h4, H.app_assoc, H.rep_app]
      congr 1
      exact H.rep_snoc _ _ _
    · rw [h5, H.enc_len, H.enc_len (f.app _), H.app_body, H.body_c]
      simp [H.body]
      omega

/-- A branch that is too long. -/
theorem QRel.over {w : World} {t d e : T} {j lg n c5 c6 : Nat} {a5 a6 : Option Addr} {wr w3 : World} (h : QRel w t d e j lg n a5 c5 wr) (hk : T.hydOk t = false) (h60 : lg ≤ 60) (hlp : 1 ≤ lg) : QRel w t d e (j + 1) (lg + 60) (n + 1) a6 c6 w3 := by
  obtain ⟨hl2, hnl, _⟩ := h
  exact ⟨by omega, by omega, .inl ⟨by omega, hk⟩⟩

/-- What is there while branches are put behind. -/
theorem QRel.own {w : World} {t d e : T} {j lg n c5 : Nat} {a5 : Option Addr} {wr : World} (h : QRel w t d e j lg n a5 c5 wr) (h60 : lg ≤ 60) : ∃ es, wr.ownsRow w.heap.size 22 1 (.slice a5 n c5) n es := by
  obtain ⟨_, _, h4⟩ := h
  rcases h4 with h4 | ⟨f, es, hn, ho, _⟩
  · omega
  · exact ⟨es, ho⟩

theorem QRel.start {w : World} {t d e : T} {lg n c5 : Nat} {a5 : Option Addr} {wr w2 : World} (h : QRel w t d .z 0 lg n a5 c5 wr) (hb : Below wr.heap.size wr w2) : QRel w t d e 0 lg n a5 c5 w2 := by
  obtain ⟨hl2, hnl, h4⟩ := h
  refine ⟨hl2, hnl, ?_⟩
  rcases h4 with h4 | ⟨f, es, hn, ho, hG, h4, h5⟩
  · exact .inl h4
  · exact .inr ⟨f, es, hn, ownsRow_below' ho hb, hG.kept (row := none) ⟨hb.os, hb.tape, hb.output, hb.size, fun k hk _ => hb.block k hk⟩ (fun k hk => by cases hk), h4, h5⟩

theorem own_same {w : World} {B e n size : Nat} {v : Value} {xs ys : List Value} (h : w.ownsRow B e size v n xs) (h' : w.ownsRow B e size v n ys) : xs = ys := by
  rcases h.2 with ⟨h1, h2⟩ | ⟨g, cap, cur, h1, h2, h3, h4, h5, h6, h7⟩
  · have e1 := h.1
    have e2 := h'.1
    rw [h2, Nat.zero_mul] at e1 e2
    rw [List.eq_nil_of_length_eq_zero e1, List.eq_nil_of_length_eq_zero e2]
  · rcases h'.2 with ⟨k1, _⟩ | ⟨g', cap', cur', k1, k2, k3, k4, k5, k6, k7⟩
    · rw [h1] at k1; cases k1
    · rw [h1] at k1
      simp only [Value.slice.injEq, Option.some.injEq, Addr.mk.injEq] at k1
      obtain ⟨⟨rfl, _⟩, _⟩ := k1
      rw [h3] at k3
      simp only [Option.some.injEq, Obj.cells.injEq] at k3
      rw [← h7, ← k7, k3.1]

def QIn (w : World) (t d e : T) (xn g8 L c8 : Nat) (v5 v6 v9 : Value) (wi : World) : Prop :=
  ∃ (j lg n : Nat) (a5 : Option Addr) (c5 : Nat), j ≤ xn ∧ v9 = .int .i64 j ∧ v6 = .int .i64 lg ∧ v5 = .slice a5 n c5 ∧ 1 ≤ lg ∧ lg ≤ 200 ∧ n ≤ lg ∧ QRel w t d e j lg n a5 c5 wi ∧
    wi.ownsRow w.heap.size 3 1 (.slice (some ⟨g8, 0, none⟩) L c8) L (ints (T.hyd e).enc) ∧ Below w.heap.size w wi

def QNil (w : World) (t d e : T) (xn : Nat) (v5 v6 v9 : Value) (wi : World) : Prop :=
  ∃ (j lg n : Nat) (a5 : Option Addr) (c5 : Nat), j ≤ xn ∧ v9 = .int .i64 j ∧ v6 = .int .i64 lg ∧ v5 = .slice a5 n c5 ∧ 1 ≤ lg ∧ lg ≤ 200 ∧ n ≤ lg ∧ QRel w t d e j lg n a5 c5 wi ∧ Below w.heap.size w wi

def QOut (w : World) (t : T) (cn : Nat) (v5 v6 v7 : Value) (wr : World) : Prop :=
  ∃ (i lg n : Nat) (a5 : Option Addr) (c5 : Nat) (d u : T), i ≤ cn ∧ Hid (d.app u = t ∧ d.cnt = i ∧ i + u.cnt = cn) ∧ v7 = .int .i64 i ∧ v6 = .int .i64 lg ∧ v5 = .slice a5 n c5 ∧ 1 ≤ lg ∧ lg ≤ 200 ∧ n ≤ lg ∧ QRel w t d .z 0 lg n a5 c5 wr ∧ Below w.heap.size w wr

set_option maxHeartbeats 4000000 in
theorem l5Of_any (N : Nat) : ∀ (b off n cap : Nat) (t : T) (w : World), t.body.length < N → n = t.enc.length → n ≤ 60 → n ≤ cap → cap ≤ maxLen → At w b off t.enc → t.Nf →
    Calls Try.prog 54 #[.slice (some ⟨b, off, none⟩) n cap] w (RowPost w (T.hydFit t)) := by
  induction N with
  | zero => intro b off n cap t w h; omega
  | succ N ih =>
    intro b off n cap t w hN hn hb hc hm hat hnf
    obtain ⟨j0, hj, hy0, hy1, hy2⟩ := info_parts info_ints
    have IH := Lib.hid ih
    have HA := Lib.hid hat
    have Hn := Lib.hid hn
    have HN := Lib.hid hN
    have HF := Lib.hid hnf
    have hbl : b < w.heap.size := hat.lt (T.enc_ne t)
    have hct := T.cnt_le t
    have hel := T.enc_len t
    obtain ⟨rf, hrf⟩ : ∃ rf, rf = T.hydFit t := ⟨_, rfl⟩
    rw [← hrf]
    have Hrf := Lib.hid hrf
    have kt := Lib.hid (l1Terms_some b off n cap t.enc t w hn.symm (by omega) hc hm hat rfl)
    clear ih hN hn hat hnf hrf
    go_enter Try.func54, Try.ntmps54
    go_wp2_with fail
    refine (kt.out).mono ?_
    rintro ee w1 ⟨g1, q1, g2, q2, es, rfl, ho1, ho2, hE, hb1⟩
    obtain ⟨cn, hcn⟩ : ∃ cn, cn = t.cnt := ⟨_, rfl⟩
    rw [← hcn] at ho1 ho2 ⊢
    have hcb : cn ≤ 60 := by have := Hn.out; omega
    have hl1 : g1 < w1.heap.size := (ho1.lt g1 rfl).2
    have hl2 : g2 < w1.heap.size := (ho2.lt g2 rfl).2
    have hst : ∀ c5, c5 = 0 → QOut w1 t cn (.slice (some ⟨w1.heap.size, 0, none⟩) 0 c5) (.int .i64 ((1 : Nat) : Int)) (.int .i64 ((0 : Nat) : Int)) (w1.alloc (.cells #[] 22)) := by
      intro c5 h5
      subst h5
      exact ⟨0, 1, 0, _, _, .z, t, Nat.zero_le _, ⟨rfl, rfl, by omega⟩, rfl, rfl, rfl, by omega, by omega, by omega, ⟨by omega, by omega, .inr ⟨.z, [], rfl, World.ownsRow_lit w1 #[] 0 (Nat.le_refl _) (by simp [maxLen]) rfl, rfl, rfl, rfl⟩⟩, (Below.refl _ _).alloc (Nat.le_refl _) _⟩
    have Hst := Lib.hid (hst 0 rfl)
    have Hcn := Lib.hid hcn
    have Hb1 := Lib.hid hb1
    have Ho1 := Lib.hid ho1
    have Ho2 := Lib.hid ho2
    have HE := Lib.hid hE
    clear hcn hb1 ho1 ho2 hE hst
    go_wp2_with fail
    go_loopw [5, 6, 7] (fun v5 v6 v7 wr => QOut w1 t cn v5 v6 v7 wr) (fun _ _ i _ => cn - (intOf i).toNat)
    case atStart => exact Hst.out
    case round =>
      obtain ⟨i, lg, n5, a5, c5, d, u, hi1, HU, rfl, rfl, rfl, hlg1, hlg2, hn5, hq, hbr⟩ := hrel
      obtain ⟨h1, h2, h3⟩ := HU.out
      have hsr := hbr.size
      by_cases hlt : i < cn
      · obtain ⟨x, e, r, rfl⟩ : ∃ x e r, u = .c x e r := T.cnt_pos (by omega)
        obtain ⟨hx1, hx2, hne⟩ := T.part_nf h1 HF.out
        obtain ⟨xn, rfl⟩ := Int.eq_ofNat_of_zero_le (show 0 ≤ x by omega)
        obtain ⟨be, oe, ce, p2, p3, p4, p5⟩ := HE.out.pick h1 h2
        have x1 : wr.cell? ⟨g1, i, none⟩ = some (.int .i64 xn) := (hbr.cell (p := ⟨g1, i, none⟩) hl1).trans ((Ho1.out.cellAt i (by omega)).trans (by rw [List.getElem?_map, T.times_pick h1 h2]; rfl))
        have x2 : wr.cell? ⟨g2, i, none⟩ = some (.slice (some ⟨be, oe, none⟩) e.enc.length ce) := (hbr.cell (p := ⟨g2, i, none⟩) hl2).trans ((Ho2.out.cellAt i (by omega)).trans p2)
        have hpl := T.part_len h1
        have hpart := T.hyd_part h1
        have hbad : T.hydOk e = false → T.hydOk t = false := fun h => T.hyd_bad h1 (by omega) h
        have hbe : be < w1.heap.size := Nat.lt_of_lt_of_le (p3.lt (T.enc_ne e)) Hb1.out.size
        have hatr : At wr be oe e.enc := (p3.below Hb1.out (p3.lt (T.enc_ne e))).below hbr hbe
        have kt2 := Lib.hid (IH.out be oe e.enc.length ce e wr (by have := HN.out; omega) rfl (by have := Hn.out; omega) p4 p5 hatr hne)
        unfold RowPost at kt2
        have Hbr := Lib.hid hbr
        have Hq := Lib.hid hq
        have Hpart := Lib.hid hpart
        have Hbad := Lib.hid hbad
        have hd1 : ((xn : Nat) : Int) = xn := rfl
        have H1 := Lib.hid h1
        have H2 := Lib.hid h2
        have H3 := Lib.hid h3
        rcases T.hydOk_tf e with hk | hk
        · rw [T.hydFit_yes hk] at kt2
          have hL1 := T.hyd_len_pos e
          have hL60 := T.hydOk_true.1 hk
          obtain ⟨L, hL⟩ : ∃ L, L = (T.hyd e).enc.length := ⟨_, rfl⟩
          rw [← hL] at kt2 hL1 hL60
          have HL := Lib.hid hL
          have Hk := Lib.hid hk
          clear h1 h2 h3 p2 p3 p4 p5 hatr hbr hq hpl hpart hbad hL hk hd1
          go_wp2_with fail
          refine (kt2.out).mono ?_
          rintro ee w2 ⟨a8, c8, rfl, ho8, hb2⟩
          have Hq2 := Lib.hid (Hq.out.start (e := e) hb2)
          have Ho8 := Lib.hid (Joins.ownsRow_le ho8 Hbr.out.size)
          have Hb2 := Lib.hid (Hbr.out.trans (hb2.mono Hbr.out.size))
          obtain ⟨g8, c8', hv⟩ := Joins.ownsRow_form ho8 (by omega)
          simp only [Value.slice.injEq, true_and] at hv
          obtain ⟨rfl, rfl⟩ := hv
          clear ho8 hb2
          go_wp2_with fail
          go_loopw [5, 6, 9] (fun v5 v6 v9 wi => QIn w1 t d e xn g8 L c8 v5 v6 v9 wi) (fun _ _ v9 _ => xn - (intOf v9).toNat)
          case atStart => exact ⟨0, lg, n5, a5, c5, Nat.zero_le _, rfl, rfl, rfl, hlg1, hlg2, hn5, Hq2.out, Ho8.out, Hb2.out⟩
          case round =>
            obtain ⟨j, lg, n5, a5, c5, hjx, rfl, rfl, rfl, hlg1, hlg2, hn5, hqi, ho8, hbi⟩ := hrel
            have Hqi := Lib.hid hqi
            have Hbi := Lib.hid hbi
            have Ho8i := Lib.hid ho8
            have x1i : wr.cell? ⟨g1, i, none⟩ = some (.int .i64 xn) := (hbi.cell (p := ⟨g1, i, none⟩) hl1).trans ((Ho1.out.cellAt i (by omega)).trans (by rw [List.getElem?_map, T.times_pick H1.out H2.out]; rfl))
            by_cases hjl : j < xn ∧ lg ≤ 60
            · obtain ⟨hj1, hj2⟩ := hjl
              obtain ⟨es5, hos⟩ := hqi.own hj2
              have Hos := Lib.hid hos
              have hs1 := hbi.size
              have hL12 : L = 1 ∨ 2 ≤ L := by omega
              clear hqi hbi ho8 hos
              rcases hL12 with hL2 | hL2
              · subst hL2
                go_wp2_with (first
                  | (at_builtin; refine wpList_append_own _ rfl (.tmp 39) (.tmp 41) 48 rfl w1.heap.size 22 j0 (.slice none 0 0) 1 24 Try.underlying48 hj hy0 hy1 hy2 rfl (by decide) _ _ _ rfl (Hos.out.alloc _) ⟨wr.heap.size, 0, none⟩ 1 1 [.slice (some ⟨g8, 0, none⟩) 1 c8] rfl rfl (cell_one_new _ _ _) (slice_oneCell _ _ _) (by unfold maxLen; omega) (by omega) (by simp; omega) ?_; intro v2' w3 ho3 hg3 _))
                obtain ⟨a6, c6, rfl, _⟩ := own_form ho3
                have h83 := (Ho8i.out.alloc (.cells #[.slice (some ⟨g8, 0, none⟩) 1 c8] 22)).kept hg3 (own_ne Ho8i.out Hos.out (by decide))
                have hfin : QIn w1 t d e xn g8 1 c8 (.slice a6 (n5 + 1) c6) (.int .i64 ((lg + 1 : Nat) : Int)) (.int .i64 ((j + 1 : Nat) : Int)) w3 := by
                  refine ⟨j + 1, lg + 1, n5 + 1, a6, c6, by omega, rfl, rfl, rfl, by omega, by omega, by omega, ?_, h83, ((Hbi.out.alloc (by omega) _).grown hg3 (by simp; omega) (fun k hk => (Hos.out.lt k hk).1))⟩
                  have hq9 := Hqi.out.more (g8 := g8) (c8 := c8) (a6 := a6) (c6 := c6) Hk.out hj2 (World.grownBy.refl wr none) hg3 (by rw [← HL.out]; exact h83) (fun es hes => by
                    rw [← HL.out]
                    have he := own_same hes Hos.out
                    rw [he]
                    exact ho3)
                  rw [← HL.out] at hq9
                  exact hq9
                have Hfin := Lib.hid hfin
                clear ho3 hg3 h83 hfin
                go_wp2_with fail
                go_roundw
                case rel => exact Hfin.out
                case measure => simp [intOf]; omega
              · have hLm : ¬ (L : Int) ≤ 1 := by omega
                have hL0 : ¬ (L : Int) ≤ 0 := by omega
                go_wp2_with (first
                  | (at_builtin; refine wpList_append_own _ rfl (.tmp 39) (.tmp 41) 48 rfl w1.heap.size 22 j0 (.slice none 0 0) 1 24 Try.underlying48 hj hy0 hy1 hy2 rfl (by decide) _ _ _ rfl (Hos.out.alloc _) ⟨wr.heap.size, 0, none⟩ 1 1 [.slice (some ⟨g8, 0, none⟩) L c8] rfl rfl (cell_one_new _ _ _) (slice_oneCell _ _ _) (by unfold maxLen; omega) (by omega) (by simp; omega) ?_; intro v2' w3 ho3 hg3 _))
                obtain ⟨a6, c6, rfl, _⟩ := own_form ho3
                have h83 := (Ho8i.out.alloc (.cells #[.slice (some ⟨g8, 0, none⟩) L c8] 22)).kept hg3 (own_ne Ho8i.out Hos.out (by decide))
                have hfin : QIn w1 t d e xn g8 L c8 (.slice a6 (n5 + 1) c6) (.int .i64 ((lg + L : Nat) : Int)) (.int .i64 ((j + 1 : Nat) : Int)) w3 := by
                  refine ⟨j + 1, lg + L, n5 + 1, a6, c6, by omega, rfl, rfl, rfl, by omega, by omega, by omega, ?_, h83, ((Hbi.out.alloc (by omega) _).grown hg3 (by simp; omega) (fun k hk => (Hos.out.lt k hk).1))⟩
                  have hq9 := Hqi.out.more (g8 := g8) (c8 := c8) (a6 := a6) (c6 := c6) Hk.out hj2 (World.grownBy.refl wr none) hg3 (by rw [← HL.out]; exact h83) (fun es hes => by
                    rw [← HL.out]
                    have he := own_same hes Hos.out
                    rw [he]
                    exact ho3)
                  rw [← HL.out] at hq9
                  exact hq9
                have Hfin := Lib.hid hfin
                clear ho3 hg3 h83 hfin
                go_wp2_with fail
                go_roundw
                case rel => exact Hfin.out
                case measure => simp [intOf]; omega
            · have hqn := hqi.next (r := r) H1.out hjx (by omega)
              have HQn := Lib.hid hqn
              have hd60 : ¬ (j < xn ∧ lg ≤ 60) := hjl
              clear hqi ho8 hqn
              by_cases hj1 : j < xn
              · have hl60 : ¬ (lg : Int) ≤ 60 := by omega
                have hsr2 := hbi.size
                clear hbi
                go_wp2_with fail
                go_roundw
                case rel => exact ⟨i + 1, lg, n5, a5, c5, d.app (.c xn e .z), r, by omega, ⟨by rw [T.app_assoc]; exact H1.out, by rw [T.app_cnt, H2.out]; rfl, by have := H3.out; simp only [T.cnt] at this; omega⟩, by go_num, rfl, rfl, hlg1, hlg2, hn5, HQn.out, Hbi.out⟩
                case measure => simp [intOf]; omega
              · have hj1' : ¬ (j : Int) < (xn : Int) := by omega
                clear hbi
                go_wp2_with fail
                go_roundw
                case rel => exact ⟨i + 1, lg, n5, a5, c5, d.app (.c xn e .z), r, by omega, ⟨by rw [T.app_assoc]; exact H1.out, by rw [T.app_cnt, H2.out]; rfl, by have := H3.out; simp only [T.cnt] at this; omega⟩, by go_num, rfl, rfl, hlg1, hlg2, hn5, HQn.out, Hbi.out⟩
                case measure => simp [intOf]; omega
        · rw [T.hydFit_no hk] at kt2
          simp only [List.length_nil] at kt2
          have Hts := Lib.hid (hbad hk)
          clear h1 h2 h3 p2 p3 p4 p5 hatr hbr hq hpl hpart hbad hk hd1
          go_wp2_with fail
          refine (kt2.out).mono ?_
          rintro ee w2 ⟨a8, c8, rfl, ho8, hb2⟩
          have Hq2 := Lib.hid (Hq.out.start (e := e) hb2)
          have Hb2 := Lib.hid (Hbr.out.trans (hb2.mono Hbr.out.size))
          clear ho8 hb2
          go_wp2_with fail
          go_loopw [5, 6, 9] (fun v5 v6 v9 wi => QNil w1 t d e xn v5 v6 v9 wi) (fun _ _ v9 _ => xn - (intOf v9).toNat)
          case atStart => exact ⟨0, lg, n5, a5, c5, Nat.zero_le _, rfl, rfl, rfl, hlg1, hlg2, hn5, Hq2.out, Hb2.out⟩
          case round =>
            obtain ⟨j, lg, n5, a5, c5, hjx, rfl, rfl, rfl, hlg1, hlg2, hn5, hqi, hbi⟩ := hrel
            have Hqi := Lib.hid hqi
            have Hbi := Lib.hid hbi
            have x1i : wr.cell? ⟨g1, i, none⟩ = some (.int .i64 xn) := (hbi.cell (p := ⟨g1, i, none⟩) hl1).trans ((Ho1.out.cellAt i (by omega)).trans (by rw [List.getElem?_map, T.times_pick H1.out H2.out]; rfl))
            by_cases hjl : j < xn ∧ lg ≤ 60
            · obtain ⟨hj1, hj2⟩ := hjl
              obtain ⟨es5, hos⟩ := hqi.own hj2
              have Hos := Lib.hid hos
              have hs1 := hbi.size
              clear hqi hbi hos
              go_wp2_with (first
                | (at_builtin; refine wpList_append_own _ rfl (.tmp 39) (.tmp 41) 48 rfl w1.heap.size 22 j0 (.slice none 0 0) 1 24 Try.underlying48 hj hy0 hy1 hy2 rfl (by decide) _ _ _ rfl (Hos.out.alloc _) ⟨wr.heap.size, 0, none⟩ 1 1 [.slice a8 0 c8] rfl rfl (cell_one_new _ _ _) (slice_oneCell _ _ _) (by unfold maxLen; omega) (by omega) (by simp; omega) ?_; intro v2' w3 ho3 hg3 _))
              obtain ⟨a6, c6, rfl, _⟩ := own_form ho3
              have hfin : QNil w1 t d e xn (.slice a6 (n5 + 1) c6) (.int .i64 ((lg + 60 : Nat) : Int)) (.int .i64 ((j + 1 : Nat) : Int)) w3 :=
                ⟨j + 1, lg + 60, n5 + 1, a6, c6, by omega, rfl, rfl, rfl, by omega, by omega, by omega, Hqi.out.over Hts.out hj2 hlg1, ((Hbi.out.alloc (by omega) _).grown hg3 (by simp; omega) (fun k hk => (Hos.out.lt k hk).1))⟩
              have Hfin := Lib.hid hfin
              clear ho3 hg3 hfin
              go_wp2_with fail
              go_roundw
              case rel => exact Hfin.out
              case measure => simp [intOf]; omega
            · have hqn := hqi.next (r := r) H1.out hjx (by omega)
              have HQn := Lib.hid hqn
              have hd60 : ¬ (j < xn ∧ lg ≤ 60) := hjl
              clear hqi hqn
              by_cases hj1 : j < xn
              · have hl60 : ¬ (lg : Int) ≤ 60 := by omega
                clear hbi
                go_wp2_with fail
                go_roundw
                case rel => exact ⟨i + 1, lg, n5, a5, c5, d.app (.c xn e .z), r, by omega, ⟨by rw [T.app_assoc]; exact H1.out, by rw [T.app_cnt, H2.out]; rfl, by have := H3.out; simp only [T.cnt] at this; omega⟩, by go_num, rfl, rfl, hlg1, hlg2, hn5, HQn.out, Hbi.out⟩
                case measure => simp [intOf]; omega
              · have hj1' : ¬ (j : Int) < (xn : Int) := by omega
                clear hbi
                go_wp2_with fail
                go_roundw
                case rel => exact ⟨i + 1, lg, n5, a5, c5, d.app (.c xn e .z), r, by omega, ⟨by rw [T.app_assoc]; exact H1.out, by rw [T.app_cnt, H2.out]; rfl, by have := H3.out; simp only [T.cnt] at this; omega⟩, by go_num, rfl, rfl, hlg1, hlg2, hn5, HQn.out, Hbi.out⟩
                case measure => simp [intOf]; omega
      · have hu : u = .z := T.cnt_zero (by omega)
        subst hu
        have hdt : d = t := by rw [T.app_z] at h1; exact h1
        subst hdt
        have hb := Hb1.out.trans (hbr.mono Hb1.out.size)
        have Hb := Lib.hid hb
        rcases hq.fin with ⟨hf1, hf2⟩ | ⟨hf1, hf2, hf3⟩
        · have hp : RowPost w rf (.returned (.slice (some ⟨wr.heap.size, 0, none⟩) 0 0)) (wr.alloc (.cells #[] 3)) := by
            rw [Hrf.out, T.hydFit_no hf2]
            exact ⟨_, 0, rfl, World.ownsRow_lit wr #[] 0 hb.size (by simp [maxLen]) rfl, hb.alloc hb.size _⟩
          have Hp := Lib.hid hp
          clear h1 h2 h3 hq hbr hf2 hp hb
          go_wp2_with fail
          go_ret
          exact Hp.out
        · have k5 := Lib.hid (l5Tree_any a5 n5 c5 (T.hyd d) wr (by have := T.hydOk_true.1 hf2; omega) hf3)
          have hl6 : ¬ (60 : Int) < (lg : Int) := by omega
          have Hf2 := Lib.hid hf2
          clear h1 h2 h3 hq hbr hf2 hf3 hb
          go_wp2_with fail
          refine (k5.out).mono ?_
          rintro ee w5 ⟨a9, c9, rfl, ho9, hb9⟩
          have hp : RowPost w rf (.returned (.slice a9 (T.hyd d).enc.length c9)) w5 := by
            rw [Hrf.out, T.hydFit_yes Hf2.out]
            exact ⟨a9, c9, rfl, Joins.ownsRow_le ho9 Hb.out.size, Hb.out.trans (hb9.mono Hb.out.size)⟩
          have Hp := Lib.hid hp
          clear ho9 hb9 hp
          go_wp2_with fail
          go_ret
          exact Hp.out

theorem spec_HydraOf (ao : Option Addr) (len cap : Nat) (xs : List Int) (w : World) (h : Sl w ao len cap xs) :
    Calls Try.prog 27 #[.slice ao len cap] w (OrdOkPost w (T.hydRow xs) (T.hydRowOk xs)) := by
  rcases vld_tf xs with h1 | h1
  · have h2 := h
    obtain ⟨b, off, t, rfl, rfl, hs, hos, hat, hn, hl, hp, hc, hm⟩ := h2.valid h1
    have hnf : t.Nf := by
      obtain ⟨_, t', he, hn'⟩ := T.vldB_true.1 h1
      rw [T.enc_inj' he]; exact hn'
    have k1 := Lib.hid (spec_valid (some ⟨b, off, none⟩) len cap t.enc w h h1)
    have kk := fun w' (hb : Below w.heap.size w w') => l5Of_any (t.body.length + 1) b off len cap t w' (by omega) hn (by omega) hc hm (hat.below hb (hat.lt (T.enc_ne t))) hnf
    have KK := Lib.hid kk
    rcases T.hydOk_tf t with hk | hk
    · rw [T.hydRow, if_pos h1, T.hydRowOk, h1, hos, Bool.true_and, hk, T.hydFit_yes hk]
      unfold RowPost at KK
      rw [T.hydFit_yes hk] at KK
      have hp1 := T.hyd_len_pos t
      have hz : (((T.hyd t).enc.length : Int) == 0) = false := beq_eq_false_iff_ne.2 (by omega)
      obtain ⟨r, hr⟩ : ∃ r, r = (T.hyd t).enc := ⟨_, rfl⟩
      rw [← hr] at KK hz ⊢
      clear h h1 hs hos hat hn hnf kk hk hp1 hr
      go_enter Try.func27, Try.ntmps27
      go_wp2_with fail
      refine (k1.out).mono ?_
      rintro ee w1 ⟨rfl, hb1⟩
      have Hb1 := Lib.hid hb1
      clear hb1
      go_wp2_with fail
      refine (KK.out w1 Hb1.out).mono ?_
      rintro ee w2 ⟨a2, c2, rfl, _, hb2⟩
      have Hb2 := Lib.hid (Hb1.out.trans (hb2.mono Hb1.out.size))
      clear hb2
      go_wp2_with fail
      refine (KK.out w2 Hb2.out).mono ?_
      rintro ee w3 ⟨a3, c3, rfl, ho3, hb3⟩
      have Ho3 := Lib.hid (Joins.ownsRow_le ho3 Hb2.out.size)
      have Hb3 := Lib.hid (Hb2.out.trans (hb3.mono Hb2.out.size))
      clear ho3 hb3
      go_wp2_with fail
      go_ret2
      exact ⟨a3, c3, rfl, Ho3.out, Hb3.out⟩
    · rw [T.hydRow, if_pos h1, T.hydRowOk, h1, hos, Bool.true_and, hk, T.hydFit_no hk]
      unfold RowPost at KK
      rw [T.hydFit_no hk] at KK
      simp only [List.length_nil] at KK
      clear h h1 hs hos hat hn hnf kk hk
      go_enter Try.func27, Try.ntmps27
      go_wp2_with fail
      refine (k1.out).mono ?_
      rintro ee w1 ⟨rfl, hb1⟩
      have Hb1 := Lib.hid hb1
      clear hb1
      go_wp2_with fail
      refine (KK.out w1 Hb1.out).mono ?_
      rintro ee w2 ⟨a2, c2, rfl, _, hb2⟩
      have Hb2 := Lib.hid (Hb1.out.trans (hb2.mono Hb1.out.size))
      clear hb2
      go_wp2_with fail
      go_ret2
      exact lit_post Hb2.out
  · have k1 := Lib.hid (spec_valid ao len cap xs w h h1)
    rw [T.hydRow, if_neg (by rw [h1]; simp), T.hydRowOk, h1, Bool.false_and]
    clear h h1
    go_enter Try.func27, Try.ntmps27
    go_wp2_with fail
    refine (k1.out).mono ?_
    rintro ee w1 ⟨rfl, hb1⟩
    have Hb1 := Lib.hid hb1
    clear hb1
    go_wp2_with fail
    go_ret2
    exact lit_post Hb1.out

end Go.Proofs.Ytigkceenhocidaa

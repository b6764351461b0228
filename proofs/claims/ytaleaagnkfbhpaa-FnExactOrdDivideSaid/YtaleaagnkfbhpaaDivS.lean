/- The model's OrdDivide. -/
import Derived.Test.YtaleaagnkfbhpaaDivJ
import Derived.Test.YtaleaagnkfbhpaaMinT
namespace Go.Proofs.Ytaleaagnkfbhpaa
open Go.RowKit

/-- What holds of the two rows ahead of a round. -/
def DivSR (w : World) (m : Int) (f b s : T) (gk : Nat) (v11 v12 v13 : Value) (wr : World) : Prop :=
  ∃ (i : Nat) (d u q : T) (es : List Value) (a11 a12 : Option Addr) (c11 c12 qn : Nat), v13 = .int .i64 i ∧ gk + i = s.cnt ∧ d.app u = s ∧ d.cnt = i ∧ T.quo m f b s = q.app (T.quo m f b u) ∧ T.rem m f b s = T.rem m f b u ∧ q.cnt = qn ∧ qn ≤ i ∧ v11 = .slice a11 qn c11 ∧ v12 = .slice a12 qn c12 ∧
    wr.ownsRow w.heap.size 3 1 v11 qn (ints q.times) ∧ wr.ownsRow w.heap.size 22 1 v12 qn es ∧ EF wr v11.ownBlock v12.ownBlock q es ∧ Below w.heap.size w wr
def DivSE (w : World) (m : Int) (f b s : T) (v11 v12 v13 : Value) (wr : World) : Prop :=
  ∃ (i : Nat) (d u q : T) (es : List Value) (a11 a12 : Option Addr) (c11 c12 qn : Nat), v13 = .int .i64 i ∧ i + u.cnt = s.cnt ∧ d.app u = s ∧ d.cnt = i ∧ T.Low f u ∧ T.quo m f b s = q.app (T.quo m f b u) ∧ T.rem m f b s = T.rem m f b u ∧ q.cnt = qn ∧ qn ≤ i ∧ v11 = .slice a11 qn c11 ∧ v12 = .slice a12 qn c12 ∧
    wr.ownsRow w.heap.size 3 1 v11 qn (ints q.times) ∧ wr.ownsRow w.heap.size 22 1 v12 qn es ∧ EF wr v11.ownBlock v12.ownBlock q es ∧ Below w.heap.size w wr
/-- A row that was made out of terms. -/
def DivRest (wz : World) (u : T) (v14 : Value) (wx : World) : Prop := ∃ (g c : Nat), v14 = .slice (some ⟨g, 0, none⟩) u.enc.length c ∧ wx.ownsRow wz.heap.size 3 1 v14 u.enc.length (ints u.enc) ∧ Below wz.heap.size wz wx
/-- At the end. -/
def DivSF (w : World) (Q R : T) (v11 v12 v14 : Value) (wx : World) : Prop :=
  ∃ (es : List Value) (a11 a12 a14 : Option Addr) (c11 c12 c14 : Nat), v11 = .slice a11 Q.cnt c11 ∧ v12 = .slice a12 Q.cnt c12 ∧ v14 = .slice a14 R.enc.length c14 ∧
    wx.ownsRow w.heap.size 3 1 v11 Q.cnt (ints Q.times) ∧ wx.ownsRow w.heap.size 22 1 v12 Q.cnt es ∧ EC wx Q es ∧ wx.ownsRow w.heap.size 3 1 v14 R.enc.length (ints R.enc) ∧ Below w.heap.size w wx

theorem own_max {w : World} {B e n c : Nat} {a : Option Addr} {xs : List Value} (h : w.ownsRow B e 1 (.slice a n c) n xs) : c ≤ maxLen := by
  rcases h.2 with ⟨h1, _⟩ | ⟨g, cap, cur, h0, h1, h2, h3, h4, _⟩
  · simp only [Value.slice.injEq] at h1; unfold maxLen; omega
  · simp only [Value.slice.injEq] at h0; omega

theorem nf_back {d u : T} (h : (d.app u).Nf) : u.Nf := by
  induction d with
  | z => exact h
  | c n e r _ ih => exact ih h.2.2.2.1

theorem at_from {w : World} {B n c g : Nat} {s d u : T} (h : w.ownsRow B 3 1 (.slice (some ⟨g, 0, none⟩) n c) n (s.times.map (.int .i64))) (hd : d.app u = s) : At w g d.cnt u.times := by
  intro j hj
  refine own_at h ?_
  have h1 := ints_drop d u hd
  have h2 := congrArg (fun l => l[j]?) h1
  simp only [List.getElem?_drop] at h2
  show (ints s.times)[d.cnt + j]? = _
  rw [h2]
  exact ints_get _ _ hj

theorem mul_num (m : Int) (f b : T) (N : Int) : T.mul (.c m f b) (.c N .z .z) = .c (m * N) f b := rfl

/-- Where nothing is left. -/
theorem l1Make_none (a1 a2 : Option Addr) (c1 c2 : Nat) (w : World) (h1 : c1 ≤ maxLen) :
    Calls Try.prog 26 #[.slice a1 0 c1, .slice a2 0 c2] w fun e w' => ∃ a' c', e = .returned (.slice a' (T.z).enc.length c') ∧ w'.ownsRow w.heap.size 3 1 (.slice a' (T.z).enc.length c') (T.z).enc.length (ints (T.z).enc) ∧ Below w.heap.size w w' :=
  l1Make_at a1 a2 0 c1 c2 .z w (by decide) ⟨rfl, [], rfl, fun h => by omega⟩ ⟨rfl, Nat.zero_le _, h1, fun h => by omega⟩

set_option maxRecDepth 100000 in
set_option maxHeartbeats 2000000 in
theorem spec_OrdDivide (a1 a2 : Option Addr) (n1 c1 n2 c2 : Nat) (xs ys : List Int) (w : World) (hx : Sl w a1 n1 c1 xs) (hy : Sl w a2 n2 c2 ys) :
    Calls Try.prog 18 #[.slice a1 n1 c1, .slice a2 n2 c2] w (DivPost w (T.quoRow xs ys) (T.remRow xs ys) (T.divOk xs ys)) := by
  obtain ⟨i0, hi, hz0, hz1, hz2⟩ := info_parts info_int
  obtain ⟨j0, hj, hy0, hy1, hy2⟩ := info_parts info_ints
  have HX := Lib.hid hx
  have HY := Lib.hid hy
  have hlit : ∀ w1, Below w.heap.size w w1 → DivPost w [] [] false (.returned (.tuple #[.slice (some ⟨w1.heap.size, 0, none⟩) 0 0, .slice (some ⟨w1.heap.size + 1, 0, none⟩) 0 0, .bool false])) ((w1.alloc (.cells #[] 3)).alloc (.cells #[] 3)) := by
    intro w1 hb
    have hL := World.ownsRow_lit (base := w.heap.size) (e := 3) (size := 1) w1 #[] 0 hb.size (by simp [maxLen]) rfl
    have hL2 := World.ownsRow_lit (base := w.heap.size) (e := 3) (size := 1) (w1.alloc (.cells #[] 3)) #[] 0 (by have := hb.size; simp; omega) (by simp [maxLen]) rfl
    rw [World.size_alloc] at hL2
    exact ⟨_, 0, _, 0, rfl, hL.alloc _, hL2, .inr (by simp [Value.ownBlock]), (hb.alloc hb.size _).alloc (by have := hb.size; simp; omega) _⟩
  have Hlit := Lib.hid hlit
  clear hlit
  rcases vld_tf xs with h1 | h1
  · have k1 := Lib.hid (spec_valid a1 n1 c1 xs w hx h1)
    rcases vld_tf ys with h2 | h2
    · obtain ⟨qr, hqr⟩ : ∃ qr, qr = T.quoRow xs ys := ⟨_, rfl⟩
      obtain ⟨rr, hrr⟩ : ∃ rr, rr = T.remRow xs ys := ⟨_, rfl⟩
      obtain ⟨ro, hro⟩ : ∃ ro, ro = T.divOk xs ys := ⟨_, rfl⟩
      rw [← hqr, ← hrr, ← hro]
      have H1v := Lib.hid h1
      have H2v := Lib.hid h2
      obtain ⟨b1, o1, s, rfl, rfl, hs, hos, hat1, hn1, hl1, hp1, hcc1, hm1⟩ := hx.valid h1
      obtain ⟨b2, o2, t, rfl, rfl, ht, hot, hat2, hn2, hl2, hp2, hcc2, hm2⟩ := hy.valid h2
      have Hqr := Lib.hid hqr
      have Hrr := Lib.hid hrr
      have Hro := Lib.hid hro
      have Hos := Lib.hid hos
      have Hot := Lib.hid hot
      have Hn1 := Lib.hid hn1
      have Hn2 := Lib.hid hn2
      have HA1 := Lib.hid hat1
      have HA2 := Lib.hid hat2
      have HS := Lib.hid hs
      have HT := Lib.hid ht
      have hle1 : s.enc.length ≤ 60 := by omega
      have hle2 : t.enc.length ≤ 60 := by omega
      clear hx hy h1 h2 hos hot hat1 hat2 hs ht hn1 hn2 hqr hrr hro
      go_enter Try.func18, Try.ntmps18
      go_wp2_with fail
      refine (k1.out).mono ?_
      rintro ee w1 ⟨rfl, hb1⟩
      have Hb1 := Lib.hid hb1
      have k2 := Lib.hid (spec_valid (some ⟨b2, o2, none⟩) n2 c2 t.enc w1 (HY.out.below hb1) H2v.out)
      clear hb1
      by_cases htz : t = .z
      · subst htz
        have hq : ((n2 : Int) == 1) = true := by
          have hn2' : n2 = 1 := Hn2.out
          simp
          omega
        have hbad := T.div_bad (xs := s.enc) (ys := (T.z).enc) (.inr (.inr Hot.out))
        have hfin : ∀ w2, Below w1.heap.size w1 w2 → DivPost w qr rr ro (.returned (.tuple #[.slice (some ⟨w2.heap.size, 0, none⟩) 0 0, .slice (some ⟨w2.heap.size + 1, 0, none⟩) 0 0, .bool false])) ((w2.alloc (.cells #[] 3)).alloc (.cells #[] 3)) := by
          intro w2 hb
          rw [Hqr.out, Hrr.out, Hro.out, hbad.1, hbad.2.1, hbad.2.2]
          exact Hlit.out w2 (Hb1.out.trans (hb.mono Hb1.out.size))
        have Hfin := Lib.hid hfin
        clear hbad hfin
        go_wp2_with fail
        refine (k2.out).mono ?_
        rintro ee w2 ⟨rfl, hb2⟩
        have Hb2 := Lib.hid hb2
        clear hb2
        go_wp2_with fail
        go_ret3
        exact Hfin.out _ Hb2.out
      · obtain ⟨m, f, b, rfl⟩ : ∃ m f b, t = .c m f b := by
          cases t with
          | z => exact absurd rfl htz
          | c m f b => exact ⟨m, f, b, rfl⟩
        have hq : ((n2 : Int) == 1) = false := by
          have h1 := Hn2.out
          rw [T.enc_len, T.body_c, List.length_cons, List.length_append] at h1
          have := T.enc_len f
          simp
          omega
        have hgood := T.div_good (xs := s.enc) (ys := (T.c m f b).enc) H1v.out H2v.out Hot.out
        rw [Hos.out] at hgood
        have Hgood := Lib.hid hgood
        clear htz hgood
        go_wp2_with fail
        refine (k2.out).mono ?_
        rintro ee w2 ⟨rfl, hb2⟩
        have Hb2 := Lib.hid (Hb1.out.trans (hb2.mono Hb1.out.size))
        have k3 := Lib.hid (l1Terms_some b1 o1 n1 c1 s.enc s w2 Hn1.out.symm (by omega) hcc1 hm1 (HA1.out.below Hb2.out (HA1.out.lt (T.enc_ne s))) rfl)
        clear hb2
        go_wp2_with fail
        refine (k3.out).mono ?_
        rintro ee w3 ⟨g5, c5, g6, c6, es6, rfl, ho5, ho6, hE6, hb3⟩
        have hcap5 := own_cap' ho5 rfl
        have hcap6 := own_cap' ho6 rfl
        have hmax5 := own_max ho5
        have hmax6 := own_max ho6
        have Hb3 := Lib.hid (Hb2.out.trans (hb3.mono Hb2.out.size))
        have HE6 := Lib.hid (hE6.below hb3)
        have Ho5 := Lib.hid ho5
        have Ho6 := Lib.hid ho6
        have hg5 := (ho5.lt g5 rfl).2
        have hg6 := (ho6.lt g6 rfl).2
        have k4 := Lib.hid (l1Terms_some b2 o2 n2 c2 (T.c m f b).enc (T.c m f b) w3 Hn2.out.symm (by omega) hcc2 hm2 (HA2.out.below Hb3.out (HA2.out.lt (T.enc_ne _))) rfl)
        clear ho5 ho6 hE6 hb3
        go_wp2_with fail
        refine (k4.out).mono ?_
        rintro ee w4 ⟨g7, c7, g8, c8, es8, rfl, ho7, ho8, hE8, hb4⟩
        have Hb4 := Lib.hid (Hb3.out.trans (hb4.mono Hb3.out.size))
        have HE6' := Lib.hid (HE6.out.below hb4)
        have Ho5' := Lib.hid (ownsRow_below' Ho5.out hb4)
        have Ho6' := Lib.hid (ownsRow_below' Ho6.out hb4)
        have hg7 := (ho7.lt g7 rfl).2
        have hg8 := (ho8.lt g8 rfl).2
        have hs34 := hb4.size
        have hg5' : g5 < w4.heap.size := by omega
        have hg6' : g6 < w4.heap.size := by omega
        obtain ⟨bf, of, cf, es8', hes8, hatf0, hcf, hcfm, _⟩ := hE8
        have hatf := hatf0.below hb4 (hatf0.lt (T.enc_ne f))
        have x7 : w4.cell? ⟨g7, 0, none⟩ = some (.int .i64 m) := own_at ho7 rfl
        have x8 : w4.cell? ⟨g8, 0, none⟩ = some (.slice (some ⟨bf, of, none⟩) f.enc.length cf) := own_at ho8 (by rw [hes8]; rfl)
        have Hatf := Lib.hid hatf
        obtain ⟨nx, hnx⟩ : ∃ nx, nx = s.cnt := ⟨_, rfl⟩
        obtain ⟨nt, hnt⟩ : ∃ nt, nt = (T.c m f b).cnt := ⟨_, rfl⟩
        have hntp : 0 < nt := by rw [hnt]; simp [T.cnt]
        have hntp2 : (0 : Int) < (nt : Int) := by omega
        have hnxb : nx ≤ 60 := by have := T.cnt_le s; have := T.enc_len s; omega
        have hfl : f.enc.length ≤ 60 := by have h1 := T.enc_len (T.c m f b); rw [T.body_c, List.length_cons, List.length_append] at h1; omega
        rw [← hnx, ← hnt]
        rw [← hnx] at hcap5 hcap6
        have Hnx := Lib.hid hnx
        have Hnt := Lib.hid hnt
        have Hmb := Lib.hid (show 1 ≤ m ∧ m ≤ 9999 from ⟨HT.out.1, HT.out.2.1⟩)
        have hst0 : DivSR w4 m f b s nx (.slice (some ⟨w4.heap.size, 0, none⟩) 0 0) (.slice (some ⟨w4.heap.size + 1, 0, none⟩) 0 0) (.int .i64 (0 : Nat)) ((w4.alloc (.cells #[] 3)).alloc (.cells #[] 22)) := by
          have hL : (w4.alloc (.cells #[] 3)).ownsRow w4.heap.size 3 1 (.slice (some ⟨w4.heap.size, 0, none⟩) 0 0) 0 (ints []) := World.ownsRow_lit w4 #[] 0 (Nat.le_refl _) (by simp [maxLen]) rfl
          have hL2 := World.ownsRow_lit (base := w4.heap.size) (e := 22) (size := 1) (w4.alloc (.cells #[] 3)) #[] 0 (by simp) (by simp [maxLen]) rfl
          rw [World.size_alloc] at hL2
          exact ⟨0, .z, s, .z, [], _, _, 0, 0, 0, rfl, hnx, rfl, rfl, rfl, rfl, rfl, Nat.zero_le _, rfl, rfl, hL.alloc _, hL2, rfl, ((Below.refl _ _).alloc (Nat.le_refl _) _).alloc (by simp) _⟩
        have Hst0 := Lib.hid hst0
        clear ho7 ho8 hes8 hatf0 hatf hb4 hnx hnt hst0
        go_upto_block 0 with fail
        go_cut [11, 12, 13] (fun v11 v12 v13 wx => DivSE w4 m f b s v11 v12 v13 wx)
        case first =>
          go_wp2_with fail
          go_loopg [11, 12, 13] nx (fun gk v11 v12 v13 wr => DivSR w4 m f b s gk v11 v12 v13 wr)
          case atStart => exact Hst0.out
          case round =>
            obtain ⟨i, d, u, q, es, a11, a12, c11, c12, qn, rfl, hgk, hdu, hdi, hquo, hrem, hqn, hqi, rfl, rfl, ho9, ho10, hEF, hbw⟩ := hrel
            have Hgk := Lib.hid hgk
            have Hdu := Lib.hid hdu
            have Hdi := Lib.hid hdi
            have Hquo := Lib.hid hquo
            have Hrem := Lib.hid hrem
            have Hqn := Lib.hid hqn
            have Ho9 := Lib.hid (show wr.ownsRow w4.heap.size 3 1 (.slice a11 qn c11) qn (ints q.times) from ho9)
            have Ho10 := Lib.hid ho10
            have HEF := Lib.hid hEF
            have Hbw := Lib.hid hbw
            have hws := hbw.size
            have hcnt : nx = i + u.cnt := by rw [Hnx.out, ← hdu, T.app_cnt, hdi]
            have Hcnt := Lib.hid hcnt
            have hqb : qn ≤ 60 := by omega
            have hi1 : i ≤ nx := by omega
            have hend : T.Low f u → ∀ wx, Below wr.heap.size wr wx → DivSE w4 m f b s (.slice a11 qn c11) (.slice a12 qn c12) (.int .i64 (i : Nat)) wx := fun h wx hb =>
              ⟨i, d, u, q, es, a11, a12, c11, c12, qn, rfl, by have := Hnx.out; omega, hdu, hdi, h, hquo, hrem, hqn, hqi, rfl, rfl, ownsRow_below' ho9 hb, ownsRow_below' ho10 hb, hEF.below hb, hbw.trans (hb.mono hws)⟩
            have Hend := Lib.hid hend
            clear hgk hdu hdi hquo hrem hqn ho9 ho10 hEF hbw hcnt hend
            by_cases huz : u = .z
            · have hd : decide ((i : Int) < (nx : Int)) = false := decide_eq_false (by have h1 := Hcnt.out; rw [huz] at h1; simp only [T.cnt] at h1; omega)
              have hdn : decide (i < nx) = false := decide_eq_false (by have h1 := Hcnt.out; rw [huz] at h1; simp only [T.cnt] at h1; omega)
              have Hlow := Lib.hid (show T.Low f u from fun n e r h => by rw [huz] at h; cases h)
              clear huz
              go_wp2_with fail
              go_quiet (fail)
              go_wp2_with fail
              go_meet
              exact Hend.out Hlow.out _ (Joins.below_draws _ _ _)
            · obtain ⟨x, e, r, rfl⟩ : ∃ x e r, u = .c x e r := by
                cases u with
                | z => exact absurd rfl huz
                | c x e r => exact ⟨x, e, r, rfl⟩
              have hlt : i < nx := by have h1 := Hcnt.out; simp only [T.cnt] at h1; omega
              obtain ⟨be, oe, ce, pp, hpE, hce, hcem⟩ := HE6'.out.pick Hdu.out Hdi.out
              have y5 : wr.cell? ⟨g5, i, none⟩ = some (.int .i64 x) := (Hbw.out.cell (p := ⟨g5, i, none⟩) hg5').trans (own_at Ho5'.out (by rw [List.getElem?_map, T.times_pick Hdu.out Hdi.out]; rfl))
              have x6 : w4.cell? ⟨g6, i, none⟩ = some (.slice (some ⟨be, oe, none⟩) e.enc.length ce) := own_at Ho6'.out pp
              have X6 := Lib.hid x6
              have y6 : wr.cell? ⟨g6, i, none⟩ = some (.slice (some ⟨be, oe, none⟩) e.enc.length ce) := (Hbw.out.cell (p := ⟨g6, i, none⟩) hg6').trans (own_at Ho6'.out pp)
              have y8 : wr.cell? ⟨g8, 0, none⟩ = some (.slice (some ⟨bf, of, none⟩) f.enc.length cf) := (Hbw.out.cell (p := ⟨g8, 0, none⟩) hg8).trans x8
              have hel : e.enc.length ≤ 60 ∧ e.Nf := by
                have h1 := HS.out
                rw [← Hdu.out] at h1
                have h2 := T.nf_last h1
                have h3 := T.enc_len s
                rw [← Hdu.out, T.app_body, T.body_c, Hdu.out] at h3
                simp at h3
                exact ⟨by omega, h2.2.2⟩
              have hel1 := hel.1
              have Hen := Lib.hid hel.2
              have kc := Lib.hid (l1Compare_any (e.body.length + 1) be oe ce bf of cf e.enc.length f.enc.length e f wr.drew (by omega) rfl rfl (by omega) (by omega) hce hcem hcf hcfm (hpE.below Hbw.out.drew (hpE.lt (T.enc_ne e))) (Hatf.out.below Hbw.out.drew (Hatf.out.lt (T.enc_ne f))))
              obtain ⟨cv, hcv⟩ : ∃ cv, cv = e.cmp f := ⟨_, rfl⟩
              rw [← hcv] at kc
              have Hcv := Lib.hid hcv
              have HpE := Lib.hid hpE
              clear huz pp hpE hcv hel x6
              go_wp2_with fail
              go_still_tail 12, (by kernel_rfl)
              change wpList _ _ _ _ _ wr.drew
              go_wp2_with fail
              refine (kc.out).mono ?_
              rintro ee w5 ⟨rfl, hb5⟩
              have hb5' : Below wr.heap.size wr w5 := ((Below.refl wr.heap.size wr).drew).trans hb5
              have Hb5 := Lib.hid hb5'
              clear hb5
              by_cases hcp : 0 < cv
              · have hgt : e.cmp f = 1 := by have h1 := Hcv.out; rcases T.cmp_vals e f with h | h | h <;> omega
                have z5 := (hb5'.cell (p := ⟨g5, i, none⟩) (by show g5 < wr.heap.size; omega)).trans y5
                have hbw5 := Hbw.out.trans (hb5'.mono hws)
                have HEF5 := Lib.hid (HEF.out.below hb5')
                have Ho9' := Lib.hid (ownsRow_below' Ho9.out hb5')
                have Ho10' := Lib.hid (ownsRow_below' Ho10.out hb5')
                have Hbw5 := Lib.hid hbw5
                have hw5 := hbw5.size
                have Hgt := Lib.hid hgt
                clear hb5' y5 y6 y8 hbw5 hgt
                go_wp2_with (first
                  | (at_builtin; refine wpList_append_own_at _ rfl (.tmp 62) (.tmp 67) 22 rfl w4.heap.size 3 i0 (.int .i64 0) 1 8 Try.underlying22 hi hz0 hz1 hz2 rfl (by decide) _ qn (ints q.times) rfl (Ho9'.out.alloc _) ⟨w5.heap.size, 0, none⟩ 1 1 [.int .i64 x] rfl rfl (cell_one_new _ _ _) (ints_oneCell _ [x]) (by unfold maxLen; omega) (by omega) (by simp; omega) ?_; intro v1 wa ho1 hg1 _ hat1))
                obtain ⟨av1, cv1, rfl, _⟩ := own_form ho1
                have hE1 := HEF5.out.below ((Below.refl w5.heap.size w5).alloc (Nat.le_refl _) (.cells #[.int .i64 x] 3))
                obtain ⟨ho10a, hE2⟩ := mul_numbers (Ho9'.out.alloc _) (Ho10'.out.alloc _) hE1 hg1 hat1
                have hba := (Hbw5.out.alloc (by omega) _).grown hg1 (by simp; omega) (fun r h => (Ho9'.out.lt r h).1)
                have Ho1 := Lib.hid ho1
                have Ho10a := Lib.hid ho10a
                have HE2 := Lib.hid hE2
                have Hba := Lib.hid hba
                have hwa := hba.size
                have z6 : wa.cell? ⟨g6, i, none⟩ = some (.slice (some ⟨be, oe, none⟩) e.enc.length ce) := (hba.cell (p := ⟨g6, i, none⟩) hg6').trans X6.out
                have z8 : wa.cell? ⟨g8, 0, none⟩ = some (.slice (some ⟨bf, of, none⟩) f.enc.length cf) := (hba.cell (p := ⟨g8, 0, none⟩) hg8).trans x8
                have hg6a : g6 < wa.heap.size := by omega
                have hg8a : g8 < wa.heap.size := by omega
                have ka := Lib.hid (l2Minus_any be oe e.enc.length ce bf of f.enc.length cf e f wa.drew rfl rfl (by omega) (by omega) (fun x hx => by have := T.nf_times Hen.out x hx; omega) (fun x hx => by have := T.nf_times HT.out.2.2.1 x hx; omega) hce hcem hcf hcfm
                  (HpE.out.below hba.drew (HpE.out.lt (T.enc_ne e))) (Hatf.out.below hba.drew (Hatf.out.lt (T.enc_ne f))))
                have hsz4 : w4.heap.size ≤ wa.heap.size := hwa
                obtain ⟨M, hM⟩ : ∃ M, M = T.minus e f := ⟨_, rfl⟩
                rw [← hM] at ka
                have HM := Lib.hid hM
                clear ho1 hg1 hat1 hE1 ho10a hE2 hba z5 hM
                go_upto_region 10 with fail
                go_region_held3 (fun w' => w'.cell? ⟨g6, i, none⟩ = some (.slice (some ⟨be, oe, none⟩) e.enc.length ce) ∧ w'.cell? ⟨g8, 0, none⟩ = some (.slice (some ⟨bf, of, none⟩) f.enc.length cf)) (first | go_keep | exact ⟨kS0, kS1⟩ | exact ⟨kT0, kT1⟩)
                  ((first
                    | (go_at_call 37; (with_reducible refine (ka.out).mono ?_); rintro ee wb ⟨aN, cN, rfl, hoN, hbN⟩; obtain ⟨gN, cN', HatN, HcN, hgN, Ho1b, Ho10b, HE3, Hbb, hsb, hsab, heN⟩ := mul_called (q := q) hoN hbN Ho1.out Ho10a.out HE2.out Hba.out; obtain ⟨rfl, rfl⟩ := heN; have kS0 := (hbN.cell (p := ⟨g6, i, none⟩) hg6a).trans z6; have kS1 := (hbN.cell (p := ⟨g8, 0, none⟩) hg8a).trans z8)
                    | (refine step_append_own_at (by rfl) (.tmp 69) (.tmp 78) 33 (by rfl) w4.heap.size 22 j0 (.slice none 0 0) 1 24 Try.underlying33 hj hy0 hy1 hy2 rfl (by decide) _ qn es (by rfl) (Ho10b.alloc _) ⟨wb.heap.size, 0, none⟩ 1 1 [.slice (some ⟨gN, 0, none⟩) M.enc.length cN'] (by rfl) (by rfl) (cell_one_new _ _ _) (slice_oneCell _ _ _) (by unfold maxLen; omega) (by omega) (by simp; omega) ?_; intro v2 wd ho2 hg2 _ hat2; have kT0 : wd.cell? ⟨g6, i, none⟩ = some (.slice (some ⟨be, oe, none⟩) e.enc.length ce) := (hg2.cell (a := ⟨g6, i, none⟩) ((World.cell?_alloc_past _ _ _ (show g6 < wb.heap.size by omega)).trans kS0) (fun h => by have h9 : w4.heap.size ≤ g6 := (Ho10b.lt _ h.symm).1; omega)); have kT1 : wd.cell? ⟨g8, 0, none⟩ = some (.slice (some ⟨bf, of, none⟩) f.enc.length cf) := (hg2.cell (a := ⟨g8, 0, none⟩) ((World.cell?_alloc_past _ _ _ (show g8 < wb.heap.size by omega)).trans kS1) (fun h => by have h9 : w4.heap.size ≤ g8 := (Ho10b.lt _ h.symm).1; omega)))
                    | fail))
                obtain ⟨av2, cv2, rfl, _⟩ := own_form ho2
                have q1 : IntKind.i64.wrap ((i : Int) + 1) = ((i + 1 : Nat) : Int) := by rw [IntWalk.i64_in _ (by omega)]; rfl
                have hfin : DivSR w4 m f b s (gk - 1) (.slice av1 (qn + 1) cv1) (.slice av2 (qn + 1) cv2) (.int .i64 ((i + 1 : Nat) : Int)) wd := by
                  have hE4 := ((HE3.below ((Below.refl wb.heap.size wb).alloc (Nat.le_refl _) (.cells #[.slice (some ⟨gN, 0, none⟩) M.enc.length cN'] 22)))).snoc (n := x) (HatN.alloc (T.enc_ne M) _) (own_row_lt Ho1.out hgN) (own_row_lt Ho10a.out hgN) HcN.1 HcN.2
                  obtain ⟨ho9', hE5⟩ := mul_exps (Ho1b.alloc _) (Ho10b.alloc _) hE4 hg2 hat2
                  have hcq : (q.app (.c x M .z)).cnt = qn + 1 := by rw [T.app_cnt, Hqn.out]; rfl
                  refine ⟨i + 1, d.app (.c x e .z), r, q.app (.c x M .z), _, av1, av2, cv1, cv2, qn + 1, rfl, by have := Hgk.out; have := Hnx.out; omega, by rw [T.app_assoc]; exact Hdu.out, by rw [T.app_cnt, Hdi.out]; rfl, ?_, ?_, hcq, by omega, rfl, rfl, ?_, ho2, hE5, (Hbb.alloc (by omega) _).grown hg2 (by simp; omega) (fun r h => (Ho10b.lt r h).1)⟩
                  · rw [T.app_assoc, Hquo.out, (T.quo_more r Hgt.out).1, HM.out]; rfl
                  · rw [Hrem.out, (T.quo_more r Hgt.out).2]
                  · have e1 : ints (q.app (.c x M .z)).times = ints q.times ++ [.int .i64 x] := (ints_snoc q M x).symm
                    rw [e1]; exact ho9'
                have Hfin := Lib.hid hfin
                clear ho2 hg2 hat2 hfin
                go_wp2_with fail
                go_roundg (gk - 1)
                case measure => have := Hgk.out; have := Hnx.out; omega
                case rel => exact Hfin.out
              · have Hlow := Lib.hid (show T.Low f (.c x e r) from fun n' e' r' h => by cases h; have := Hcv.out; omega)
                clear y5 y6 y8 hb5'
                go_wp2_with fail
                go_meet
                exact Hend.out Hlow.out _ Hb5.out
        case rest =>
          obtain ⟨i, d, u, q, es, a11, a12, c11, c12, qn, rfl, hct, hdu, hdi, hlow, hquo, hrem, hqn, hqi, rfl, rfl, ho9, ho10, hEF, hbz⟩ := hcut
          go_step
          obtain ⟨wz, rfl⟩ : ∃ wz : World, wz = wc := ⟨_, rfl⟩
          have hun : u.Nf := by have h := HS.out; rw [← hdu] at h; exact nf_back h
          have hul : u.enc.length ≤ 60 := by have h := congrArg (fun x => T.body x) hdu; have h2 := congrArg List.length h; simp only [T.app_body, List.length_append] at h2; have := T.enc_len s; have := T.enc_len u; omega
          have Hdu := Lib.hid hdu
          have Hdi := Lib.hid hdi
          have Hqn := Lib.hid hqn
          have Ho9 := Lib.hid (show wz.ownsRow w4.heap.size 3 1 (.slice a11 qn c11) qn (ints q.times) from ho9)
          have Ho10 := Lib.hid ho10
          have HEF := Lib.hid hEF
          have Hbz := Lib.hid hbz
          have Hun := Lib.hid hun
          have hwz := hbz.size
          obtain ⟨N, hN⟩ : ∃ N, N = T.timesN m f b u := ⟨_, rfl⟩
          obtain ⟨t1, t2, t3⟩ := T.timesN_spec (m := m) (f := f) (b := b) HT.out.1 hun
          obtain ⟨ql, rl⟩ := T.quo_low (m := m) (b := b) hlow
          rw [← hN] at t1 t2 t3 ql rl
          have HQ := Lib.hid (show T.quo m f b s = q.app (if 0 < N then .c N .z .z else .z) by rw [hquo, ql])
          have HR := Lib.hid (show T.rem m f b s = if 0 < N then T.minus u (.c (m * N) f b) else u by rw [hrem, rl])
          have HN := Lib.hid hN
          have T3 := Lib.hid t3
          obtain ⟨un, hun'⟩ : ∃ un, un = u.cnt := ⟨_, rfl⟩
          have hnxu : nx = i + un := by have := Hnx.out; omega
          have Hun' := Lib.hid hun'
          have Hnxu := Lib.hid hnxu
          have hqb : qn ≤ 60 := by omega
          have hA5 := Lib.hid (at_from Ho5'.out hdu)
          rw [hdi] at hA5
          have hE6d := Lib.hid (show EC w4 u (es6.drop i) from by have h := HE6'.out; rw [← hdu] at h; have h2 := ec_back h; rw [hdi] at h2; exact h2)
          have hi1 : (i : Int) ≤ (nx : Int) := by omega
          have hi2 : (nx : Int) ≤ (c5 : Int) := by omega
          have hi3 : (nx : Int) ≤ (c6 : Int) := by omega
          have hi4 : (i : Int) ≤ (c5 : Int) := by omega
          have hi5 : (i : Int) ≤ (c6 : Int) := by omega
          have hi6 : (0 : Int) ≤ (i : Int) := by omega
          have hi7 : i ≤ nx := by omega
          clear hct hdu hdi hlow hquo hrem hqn ho9 ho10 hEF hbz hun t3 ql rl hN hun' hnxu
          go_upto_region 12 with fail
          go_cut [14] (fun v14 wx => DivRest wz u v14 wx)
          case first =>
            have hfin : ∀ (e : Ending) (w' : World), Below wz.drew.heap.size wz.drew w' → (∃ a' c', e = .returned (.slice a' u.enc.length c') ∧ w'.ownsRow wz.drew.heap.size 3 1 (.slice a' u.enc.length c') u.enc.length (ints u.enc)) → ∃ g c, e = .returned (.slice (some ⟨g, 0, none⟩) u.enc.length c) ∧ DivRest wz u (.slice (some ⟨g, 0, none⟩) u.enc.length c) w' := by
              rintro e w' hb ⟨a', c', rfl, ho⟩
              obtain ⟨g, rfl, _⟩ := own_row ho
              exact ⟨g, c', rfl, g, c', rfl, ho, ((Below.refl wz.heap.size wz).drew).trans hb⟩
            have Hfin := Lib.hid hfin
            clear hfin
            by_cases huz : u = .z
            · have hun0 : un = 0 := by rw [Hun'.out, huz]; rfl
              have hnxi : nx = i := by have := Hnxu.out; omega
              subst huz
              subst hnxi
              by_cases h5 : c5 = nx
              all_goals by_cases h6 : c6 = nx
              · have k14 := fun a1 a2 => Lib.hid (l1Make_none a1 a2 0 0 wz.drew (Nat.zero_le _))
                subst h5
                subst h6
                clear hun0
                go_wp2_with fail
                go_still_tail 6, (by kernel_rfl)
                change wpList _ _ _ _ _ wz.drew
                go_wp2_with fail
                refine ((k14 _ _).out).mono ?_
                rintro ee wy ⟨a', c', rfl, ho, hb⟩
                obtain ⟨g, c, he, hD⟩ := Hfin.out _ _ hb ⟨a', c', rfl, ho⟩
                simp only [Ending.returned.injEq, Value.slice.injEq] at he
                obtain ⟨rfl, _, rfl⟩ := he
                have HD := Lib.hid hD
                clear ho hb hD
                go_wp2_with fail
                go_meet
                exact HD.out
              · have k14 := fun a1 a2 => Lib.hid (l1Make_none a1 a2 0 (c6 - nx) wz.drew (Nat.zero_le _))
                have h6' : ¬ (c6 : Int) = (nx : Int) := by omega
                subst h5
                clear hun0
                go_wp2_with fail
                go_still_tail 6, (by kernel_rfl)
                change wpList _ _ _ _ _ wz.drew
                go_wp2_with fail
                refine ((k14 _ _).out).mono ?_
                rintro ee wy ⟨a', c', rfl, ho, hb⟩
                obtain ⟨g, c, he, hD⟩ := Hfin.out _ _ hb ⟨a', c', rfl, ho⟩
                simp only [Ending.returned.injEq, Value.slice.injEq] at he
                obtain ⟨rfl, _, rfl⟩ := he
                have HD := Lib.hid hD
                clear ho hb hD
                go_wp2_with fail
                go_meet
                exact HD.out
              · have k14 := fun a1 a2 => Lib.hid (l1Make_none a1 a2 (c5 - nx) 0 wz.drew (by omega))
                have h5' : ¬ (c5 : Int) = (nx : Int) := by omega
                subst h6
                clear hun0
                go_wp2_with fail
                go_still_tail 6, (by kernel_rfl)
                change wpList _ _ _ _ _ wz.drew
                go_wp2_with fail
                refine ((k14 _ _).out).mono ?_
                rintro ee wy ⟨a', c', rfl, ho, hb⟩
                obtain ⟨g, c, he, hD⟩ := Hfin.out _ _ hb ⟨a', c', rfl, ho⟩
                simp only [Ending.returned.injEq, Value.slice.injEq] at he
                obtain ⟨rfl, _, rfl⟩ := he
                have HD := Lib.hid hD
                clear ho hb hD
                go_wp2_with fail
                go_meet
                exact HD.out
              · have k14 := fun a1 a2 => Lib.hid (l1Make_none a1 a2 (c5 - nx) (c6 - nx) wz.drew (by omega))
                have h5' : ¬ (c5 : Int) = (nx : Int) := by omega
                have h6' : ¬ (c6 : Int) = (nx : Int) := by omega
                clear hun0
                go_wp2_with fail
                go_still_tail 6, (by kernel_rfl)
                change wpList _ _ _ _ _ wz.drew
                go_wp2_with fail
                refine ((k14 _ _).out).mono ?_
                rintro ee wy ⟨a', c', rfl, ho, hb⟩
                obtain ⟨g, c, he, hD⟩ := Hfin.out _ _ hb ⟨a', c', rfl, ho⟩
                simp only [Ending.returned.injEq, Value.slice.injEq] at he
                obtain ⟨rfl, _, rfl⟩ := he
                have HD := Lib.hid hD
                clear ho hb hD
                go_wp2_with fail
                go_meet
                exact HD.out
            · have hunp : 0 < un := by
                rw [Hun'.out]
                cases u with
                | z => exact absurd rfl huz
                | c n e r => simp [T.cnt]
              have h5 : ¬ c5 = i := by have := Hnxu.out; omega
              have h6 : ¬ c6 = i := by have := Hnxu.out; omega
              have h5' : ¬ (c5 : Int) = (i : Int) := by omega
              have h6' : ¬ (c6 : Int) = (i : Int) := by omega
              have k14 := Lib.hid (l1Make_at (some ⟨g5, i, none⟩) (some ⟨g6, i, none⟩) (nx - i) (c5 - i) (c6 - i) u wz.drew (by omega)
                ⟨by have := Hnxu.out; have := Hun'.out; omega, _, hE6d.out.below Hbz.out.drew, fun _ => ⟨g6, i, rfl, by show g6 < wz.heap.size; omega, fun j v hj => (Hbz.out.drew.cell (p := ⟨g6, i + j, none⟩) hg6').trans (own_at Ho6'.out (by rw [List.getElem?_drop] at hj; exact hj))⟩⟩
                ⟨by rw [T.times_len, ← Hun'.out]; have := Hnxu.out; omega, by omega, by omega, fun _ => ⟨g5, i, rfl, hA5.out.below Hbz.out.drew hg5'⟩⟩)
              clear huz
              go_wp2_with fail
              go_still_tail 6, (by kernel_rfl)
              change wpList _ _ _ _ _ wz.drew
              go_wp2_with fail
              refine (k14.out).mono ?_
              rintro ee wy ⟨a', c', rfl, ho, hb⟩
              obtain ⟨g, c, he, hD⟩ := Hfin.out _ _ hb ⟨a', c', rfl, ho⟩
              simp only [Ending.returned.injEq, Value.slice.injEq] at he
              obtain ⟨rfl, _, rfl⟩ := he
              have HD := Lib.hid hD
              clear ho hb hD
              go_wp2_with fail
              go_meet
              exact HD.out
          case rest =>
            obtain ⟨g14, c14, rfl, ho14, hby⟩ := hcut
            go_step
            obtain ⟨wy, rfl⟩ : ∃ wy : World, wy = wc := ⟨_, rfl⟩
            have hat14 := (own_row ho14)
            obtain ⟨g14', he14, hg14, hat14, hcap14, hmax14⟩ := hat14
            simp only [Option.some.injEq, Addr.mk.injEq, and_true] at he14
            subst he14
            have Hat14 := Lib.hid hat14
            have Ho14 := Lib.hid ho14
            have Hby := Lib.hid (Hbz.out.trans (hby.mono hwz))
            have hwy := Hby.out.size
            have Ho9y := Lib.hid (ownsRow_below' Ho9.out hby)
            have Ho10y := Lib.hid (ownsRow_below' Ho10.out hby)
            have HEFy := Lib.hid (HEF.out.below hby)
            have hzy := hby.size
            have hg14y := (ho14.lt g14 rfl).2
            clear ho14 hby hat14
            go_upto_region 13 with fail
            go_cut [102] (fun v102 wx => ∃ bb : Bool, v102 = .bool bb ∧ (bb = true → ∃ n r, u = .c n f r) ∧ (bb = false → N = 0) ∧ Below wy.heap.size wy wx)
            case first =>
              by_cases huz : u = .z
              · have hnxi : nx = i := by have h1 := Hun'.out; rw [huz] at h1; have := Hnxu.out; simp only [T.cnt] at h1; omega
                have hd : decide ((i : Int) < (nx : Int)) = false := decide_eq_false (by omega)
                have hdn : decide (i < nx) = false := decide_eq_false (by omega)
                have HN0 := Lib.hid (show N = 0 by rw [HN.out, huz, T.timesN])
                clear huz hnxi
                go_wp2_with fail
                go_quiet (fail)
                go_wp2_with fail
                go_meet
                exact ⟨false, rfl, (fun h => by cases h), (fun _ => HN0.out), Joins.below_draws _ _ _⟩
              · obtain ⟨n, e, r, hu1⟩ : ∃ n e r, u = .c n e r := by
                  cases u with
                  | z => exact absurd rfl huz
                  | c n e r => exact ⟨n, e, r, rfl⟩
                have hlt : i < nx := by have h1 := Hun'.out; rw [hu1] at h1; have := Hnxu.out; simp only [T.cnt] at h1; omega
                have hdd : d.app (.c n e r) = s := by rw [← hu1]; exact Hdu.out
                obtain ⟨be, oe, ce, pp, hpE, hce, hcem⟩ := HE6'.out.pick hdd Hdi.out
                have y6 : wy.cell? ⟨g6, i, none⟩ = some (.slice (some ⟨be, oe, none⟩) e.enc.length ce) := (Hby.out.cell (p := ⟨g6, i, none⟩) hg6').trans (own_at Ho6'.out pp)
                have y8 : wy.cell? ⟨g8, 0, none⟩ = some (.slice (some ⟨bf, of, none⟩) f.enc.length cf) := (Hby.out.cell (p := ⟨g8, 0, none⟩) hg8).trans x8
                have hel : e.enc.length ≤ 60 := by have h1 := T.enc_len u; rw [hu1, T.body_c, List.length_cons, List.length_append, ← hu1] at h1; omega
                have ke := Lib.hid (l1Same_any (some ⟨be, oe, none⟩) (some ⟨bf, of, none⟩) e.enc.length ce f.enc.length cf e.enc f.enc wy.drew (by omega)
                  ⟨rfl, hce, hcem, fun _ => ⟨be, oe, rfl, hpE.below Hby.out.drew (hpE.lt (T.enc_ne e))⟩⟩ ⟨rfl, hcf, hcfm, fun _ => ⟨bf, of, rfl, Hatf.out.below Hby.out.drew (Hatf.out.lt (T.enc_ne f))⟩⟩)
                have hres : (eqB e.enc f.enc = true → ∃ n r, u = .c n f r) ∧ (eqB e.enc f.enc = false → N = 0) := by
                  constructor
                  · intro h
                    have hef := T.enc_inj' (eqB_true.1 h)
                    exact ⟨n, r, by rw [hu1, hef]⟩
                  · intro h
                    rw [HN.out, hu1, T.timesN, if_neg]
                    intro h2
                    rw [T.cmp_eq h2, eqB_refl] at h
                    cases h
                have Hres := Lib.hid hres
                clear huz hu1 hdd pp hpE hres
                go_wp2_with fail
                go_still_tail 12, (by kernel_rfl)
                change wpList _ _ _ _ _ wy.drew
                go_wp2_with fail
                refine (ke.out).mono ?_
                rintro ee w5 ⟨rfl, hb5⟩
                have Hb5 := Lib.hid (((Below.refl wy.heap.size wy).drew).trans hb5)
                clear hb5
                go_wp2_with fail
                go_meet
                exact ⟨_, rfl, Hres.out.1, Hres.out.2, Hb5.out⟩
            case rest =>
              obtain ⟨bb, rfl, hyes, hno, hbt⟩ := hcut
              go_step
              obtain ⟨wt, rfl⟩ : ∃ wt : World, wt = wc := ⟨_, rfl⟩
              have Hbt := Lib.hid (Hby.out.trans (hbt.mono hwy))
              have hwt := Hbt.out.size
              have Ho9t := Lib.hid (ownsRow_below' Ho9y.out hbt)
              have Ho10t := Lib.hid (ownsRow_below' Ho10y.out hbt)
              have HEFt := Lib.hid (HEFy.out.below hbt)
              have Ho14t := Lib.hid (ownsRow_below' Ho14.out hbt)
              have Hat14t := Lib.hid (Hat14.out.below hbt (Hat14.out.lt (T.enc_ne u)))
              have hyt := hbt.size
              have Hyes := Lib.hid hyes
              have Hno := Lib.hid hno
              clear hyes hno hbt
              go_upto_if 102 with fail
              go_cut [11, 12, 14] (fun v11 v12 v14 wx => DivSF w4 (T.quo m f b s) (T.rem m f b s) v11 v12 v14 wx)
              case first =>
                cases bb with
                | false =>
                  have hN0 := Hno.out rfl
                  have hfin : DivSF w4 (T.quo m f b s) (T.rem m f b s) (.slice a11 qn c11) (.slice a12 qn c12) (.slice (some ⟨g14, 0, none⟩) u.enc.length c14) wt := by
                    rw [HQ.out, HR.out, hN0, if_neg (by omega), if_neg (by omega), T.app_z]
                    unfold DivSF
                    rw [Hqn.out]
                    exact ⟨_, _, _, _, _, _, _, rfl, rfl, rfl, Ho9t.out, Ho10t.out, HEFt.out.ec, Joins.ownsRow_le Ho14t.out hwz, Hbt.out⟩
                  have Hfin := Lib.hid hfin
                  clear hfin hN0
                  go_wp2_with fail
                  go_meet
                  exact Hfin.out
                | true =>
                  obtain ⟨n, r, hu1⟩ := Hyes.out rfl
                  obtain ⟨N0, hN0⟩ : ∃ N0, N0 = n / m := ⟨_, rfl⟩
                  have hnb : 1 ≤ n ∧ n ≤ 9999 := by have h := Hun.out; rw [hu1] at h; exact ⟨h.1, h.2.1⟩
                  obtain ⟨d1, d2, d3⟩ := T.div_le (n := n) (m := m) Hmb.out.1 (by omega)
                  rw [← hN0] at d1 d2 d3
                  have hform : N = if 0 < N0 ∧ (T.c (m * N0) f b).cmp u = 1 then N0 - 1 else N0 := by rw [HN.out, hu1, T.timesN, if_pos (T.cmp_refl f), hN0]
                  have hlt : i < nx := by have h1 := Hun'.out; rw [hu1] at h1; have := Hnxu.out; simp only [T.cnt] at h1; omega
                  have hdd : d.app (.c n f r) = s := by rw [← hu1]; exact Hdu.out
                  have y5 : wt.cell? ⟨g5, i, none⟩ = some (.int .i64 n) := (Hbt.out.cell (p := ⟨g5, i, none⟩) hg5').trans (own_at Ho5'.out (by rw [List.getElem?_map, T.times_pick hdd Hdi.out]; rfl))
                  have y7 : wt.cell? ⟨g7, 0, none⟩ = some (.int .i64 m) := (Hbt.out.cell (p := ⟨g7, 0, none⟩) hg7).trans x7
                  have hm0 : ¬ m = 0 := by have := Hmb.out.1; omega
                  have hmz : (m == 0) = false := by simpa using hm0
                  have hq1 : n.tdiv m = N0 := by rw [hN0]; exact Int.tdiv_eq_ediv_of_nonneg (by omega)
                  have hq2 : IntKind.i64.wrap N0 = N0 := IntWalk.i64_in _ (by omega)
                  have Hform := Lib.hid hform
                  have hNb0 : N0 ≤ 9999 := by omega
                  clear hN0 hnb hform hu1 hdd
                  go_wp2_with fail
                  go_quiet (fail)
                  generalize hwq : wt.drewN _ = wq
                  have hbq : Below wt.heap.size wt wq := by rw [← hwq]; exact Joins.below_draws _ _ _
                  have Hbq := Lib.hid (Hbt.out.trans (hbq.mono hwt))
                  have hwq' := Hbq.out.size
                  have Ho9q := Lib.hid (ownsRow_below' Ho9t.out hbq)
                  have Ho10q := Lib.hid (ownsRow_below' Ho10t.out hbq)
                  have HEFq := Lib.hid (HEFt.out.below hbq)
                  have Ho14q := Lib.hid (ownsRow_below' Ho14t.out hbq)
                  have Hat14q := Lib.hid (Hat14t.out.below hbq (Hat14t.out.lt (T.enc_ne u)))
                  have htq := hbq.size
                  have Hb2q := Lib.hid (HA2.out.below (Hb4.out.trans (Hbq.out.mono Hb4.out.size)) (HA2.out.lt (T.enc_ne _)))
                  clear hwq hbq y5 y7
                  go_upto_region 15 with fail
                  go_cut [121] (fun v121 wx => ∃ bq : Bool, v121 = .bool bq ∧ N = (if bq = true then N0 - 1 else N0) ∧ (bq = true → 0 < N0) ∧ Below wq.heap.size wq wx)
                  case first =>
                    by_cases hp : 0 < N0
                    · have hlit : (wq.alloc (.cells #[.int .i64 1, .int .i64 N0, .int .i64 0] 3)).ownsRow wq.heap.size 3 1 (.slice (some ⟨wq.heap.size, 0, none⟩) (T.c N0 .z .z).enc.length 3) (T.c N0 .z .z).enc.length (ints (T.c N0 .z .z).enc) := World.ownsRow_lit wq _ 3 (Nat.le_refl _) (by simp [maxLen]) rfl
                      obtain ⟨gl, hgl, _, hatl, _, _⟩ := own_row hlit
                      simp only [Option.some.injEq, Addr.mk.injEq, and_true] at hgl
                      subst hgl
                      have hnfN : (T.c N0 .z .z).Nf := ⟨by omega, hNb0, trivial, trivial, T.ok_z _⟩
                      have hbA : Below wq.heap.size wq (wq.alloc (.cells #[.int .i64 1, .int .i64 N0, .int .i64 0] 3)) := (Below.refl _ _).alloc (Nat.le_refl _) _
                      have kt := Lib.hid (l2Times_any b2 o2 n2 c2 wq.heap.size 0 3 3 (.c m f b) (.c N0 .z .z) _ HT.out hnfN Hn2.out rfl (by omega) (by omega) hcc2 hm2 (Nat.le_refl _) (by unfold maxLen; omega) (Hb2q.out.below hbA (Hb2q.out.lt (T.enc_ne _))) hatl)
                      rw [mul_num] at kt
                      obtain ⟨tt, htt⟩ : ∃ tt, tt = T.c (m * N0) f b := ⟨_, rfl⟩
                      rw [← htt] at kt
                      have htl : tt.enc.length ≤ 1000 := by rw [htt]; have h3 := hle2; rw [T.enc_len, T.body_c] at h3 ⊢; simp only [List.length_cons, List.length_append] at h3 ⊢; omega
                      have Htt := Lib.hid htt
                      have HbA := Lib.hid hbA
                      clear hlit hatl hnfN hbA htt
                      go_wp2_with fail
                      refine (kt.out).mono ?_
                      rintro ee w5 ⟨a17, c17, rfl, ho17, hb17⟩
                      obtain ⟨g17, rfl, hg17, hat17, hc17, hm17⟩ := own_row ho17
                      have hb5 := HbA.out.trans (hb17.mono HbA.out.size)
                      have kc := Lib.hid (l1Compare_any (tt.body.length + 1) g17 0 c17 g14 0 c14 tt.enc.length u.enc.length tt u w5 (by omega) rfl rfl (by omega) (by omega) hc17 hm17 hcap14 hmax14 hat17 (Hat14q.out.below hb5 (Hat14q.out.lt (T.enc_ne u))))
                      obtain ⟨cv, hcv⟩ : ∃ cv, cv = tt.cmp u := ⟨_, rfl⟩
                      rw [← hcv] at kc
                      have Hcv := Lib.hid hcv
                      have Hb5 := Lib.hid hb5
                      clear ho17 hb17 hat17 hb5 hcv
                      go_wp2_with fail
                      refine (kc.out).mono ?_
                      rintro ee w6 ⟨rfl, hb6⟩
                      have Hb6 := Lib.hid (Hb5.out.trans (hb6.mono Hb5.out.size))
                      clear hb6
                      by_cases hcp : 0 < cv
                      · have Hv := Lib.hid (show N = N0 - 1 by
                          rw [Hform.out, if_pos]
                          refine ⟨hp, ?_⟩
                          have h1 := Hcv.out
                          rw [Htt.out] at h1
                          rcases T.cmp_vals (T.c (m * N0) f b) u with h | h | h <;> omega)
                        go_wp2_with fail
                        go_meet
                        exact ⟨true, rfl, Hv.out, fun _ => hp, Hb6.out⟩
                      · have Hv := Lib.hid (show N = N0 by
                          rw [Hform.out, if_neg]
                          rintro ⟨_, h⟩
                          have h1 := Hcv.out
                          rw [Htt.out] at h1
                          omega)
                        go_wp2_with fail
                        go_meet
                        exact ⟨false, by simp [hcp], Hv.out, (fun h => by cases h), Hb6.out⟩
                    · have Hv := Lib.hid (show N = N0 by rw [Hform.out, if_neg (fun h => hp h.1)])
                      go_wp2_with fail
                      go_meet
                      exact ⟨false, rfl, Hv.out, (fun h => by cases h), Below.refl _ _⟩
                  case rest =>
                    obtain ⟨bq, rfl, hNv, hbqp, hbp⟩ := hcut
                    go_step
                    obtain ⟨wp, rfl⟩ : ∃ wp : World, wp = wc := ⟨_, rfl⟩
                    have Hbp := Lib.hid (Hbq.out.trans (hbp.mono hwq'))
                    have hwp := Hbp.out.size
                    have Ho9p := Lib.hid (ownsRow_below' Ho9q.out hbp)
                    have Ho10p := Lib.hid (ownsRow_below' Ho10q.out hbp)
                    have HEFp := Lib.hid (HEFq.out.below hbp)
                    have Ho14p := Lib.hid (ownsRow_below' Ho14q.out hbp)
                    have Hat14p := Lib.hid (Hat14q.out.below hbp (Hat14q.out.lt (T.enc_ne u)))
                    have hqp := hbp.size
                    have HNv := Lib.hid hNv
                    have Hbqp := Lib.hid hbqp
                    clear hNv hbqp hbp
                    go_upto_if 121 with fail
                    go_cut [15] (fun v15 wx => v15 = .int .i64 N ∧ wp = wx)
                    case first =>
                      cases bq with
                      | false =>
                        have h1 := HNv.out
                        rw [if_neg (by simp)] at h1
                        have H1 := Lib.hid h1
                        clear h1
                        go_wp2_with fail
                        go_meet
                        exact ⟨by rw [H1.out], rfl⟩
                      | true =>
                        have h1 := HNv.out
                        rw [if_pos rfl] at h1
                        have H1 := Lib.hid h1
                        have hq5 : IntKind.i64.wrap (N0 - 1) = N0 - 1 := IntWalk.i64_in _ (by omega)
                        clear h1
                        go_wp2_with fail
                        go_meet
                        exact ⟨by rw [H1.out], rfl⟩
                    case rest =>
                      obtain ⟨rfl, rfl⟩ := hcut
                      go_step
                      by_cases hNp : 0 < N
                      · obtain ⟨p1, p2, p3⟩ := T3.out hNp
                        go_wp2_with (first
                          | (at_builtin; refine wpList_append_own_at _ rfl (.tmp 126) (.tmp 128) 22 rfl w4.heap.size 3 i0 (.int .i64 0) 1 8 Try.underlying22 hi hz0 hz1 hz2 rfl (by decide) _ qn (ints q.times) rfl (Ho9p.out.alloc _) ⟨wp.heap.size, 0, none⟩ 1 1 [.int .i64 N] rfl rfl (cell_one_new _ _ _) (ints_oneCell _ [N]) (by unfold maxLen; omega) (by omega) (by simp; omega) ?_; intro v1 wa ho1 hg1 _ hat1; have hE1 := HEFp.out.below ((Below.refl wp.heap.size wp).alloc (Nat.le_refl _) (.cells #[.int .i64 N] 3)); obtain ⟨ho10a, hE2⟩ := mul_numbers (Ho9p.out.alloc _) (Ho10p.out.alloc _) hE1 hg1 hat1; have hba := (Hbp.out.alloc hwp _).grown hg1 (by simp; omega) (fun r h => (Ho9p.out.lt r h).1); have hwa := hba.size)
                          | (at_builtin; refine wpList_append_own_at _ rfl (.tmp 130) (.tmp 132) 33 rfl w4.heap.size 22 j0 (.slice none 0 0) 1 24 Try.underlying33 hj hy0 hy1 hy2 rfl (by decide) _ qn es rfl ((ho10a.alloc _).alloc _) ⟨wa.heap.size + 1, 0, none⟩ 1 1 [.slice (some ⟨wa.heap.size, 0, none⟩) 1 1] rfl rfl (cell_one_at _ _ _ _ (by simp)) (slice_oneCell _ _ _) (by unfold maxLen; omega) (by omega) (by simp; omega) ?_; intro v2 wd ho2 hg2 _ hat2))
                        obtain ⟨av1, cv1, rfl, _⟩ := own_form ho1
                        obtain ⟨av2, cv2, rfl, _⟩ := own_form ho2
                        have hb2 : Below wa.heap.size wa ((wa.alloc (.cells #[.int .i64 0] 3)).alloc (.cells #[.slice (some ⟨wa.heap.size, 0, none⟩) 1 1] 22)) := ((Below.refl _ _).alloc (Nat.le_refl _) _).alloc (by simp) _
                        have hlz : ((wa.alloc (.cells #[.int .i64 0] 3)).alloc (.cells #[.slice (some ⟨wa.heap.size, 0, none⟩) 1 1] 22)).ownsRow wa.heap.size 3 1 (.slice (some ⟨wa.heap.size, 0, none⟩) (T.z).enc.length 1) (T.z).enc.length (ints (T.z).enc) := (World.ownsRow_lit wa _ 1 (Nat.le_refl _) (by simp [maxLen]) rfl).alloc _
                        obtain ⟨gz, hgz, _, hatz, _, _⟩ := own_row hlz
                        simp only [Option.some.injEq, Addr.mk.injEq, and_true] at hgz
                        subst hgz
                        have hE3 := (hE2.below hb2).snoc (n := N) (e := .z) (cap := 1) hatz (own_row_lt ho1 (Nat.le_refl _)) (own_row_lt ho10a (Nat.le_refl _)) (by decide) (by unfold maxLen; omega)
                        obtain ⟨ho9d, hE5⟩ := mul_exps ((ho1.alloc _).alloc _) ((ho10a.alloc _).alloc _) hE3 hg2 hat2
                        have hbd := (hba.trans (hb2.mono hwa)).grown hg2 (by simp; omega) (fun r h => (ho10a.lt r h).1)
                        have hne14 : (Value.slice (some ⟨g14, 0, none⟩) u.enc.length c14).ownBlock = none ∨ (Value.slice (some ⟨g14, 0, none⟩) u.enc.length c14).ownBlock ≠ (Value.slice a11 qn c11).ownBlock := .inr (fun he => by
                          have h1 := (Ho9.out.lt g14 he.symm).2
                          omega)
                        have ho14a := (Ho14p.out.alloc (.cells #[.int .i64 N] 3)).kept hg1 hne14
                        have ho14b := (ho14a.alloc (.cells #[.int .i64 0] 3)).alloc (.cells #[.slice (some ⟨wa.heap.size, 0, none⟩) 1 1] 22)
                        have ho10b := (ho10a.alloc (.cells #[.int .i64 0] 3)).alloc (.cells #[.slice (some ⟨wa.heap.size, 0, none⟩) 1 1] 22)
                        have hne18 := own_ne ho14b ho10b (by decide)
                        have ho14d := ho14b.kept hg2 hne18
                        obtain ⟨g14d, he14d, _, hat14d, _, _⟩ := own_row ho14d
                        simp only [Option.some.injEq, Addr.mk.injEq, and_true] at he14d
                        subst he14d
                        have hlit : (wd.alloc (.cells #[.int .i64 1, .int .i64 N, .int .i64 0] 3)).ownsRow wd.heap.size 3 1 (.slice (some ⟨wd.heap.size, 0, none⟩) (T.c N .z .z).enc.length 3) (T.c N .z .z).enc.length (ints (T.c N .z .z).enc) := World.ownsRow_lit wd _ 3 (Nat.le_refl _) (by simp [maxLen]) rfl
                        obtain ⟨gl, hgl, _, hatl, _, _⟩ := own_row hlit
                        simp only [Option.some.injEq, Addr.mk.injEq, and_true] at hgl
                        subst hgl
                        have hnfN : (T.c N .z .z).Nf := ⟨by omega, t2, trivial, trivial, T.ok_z _⟩
                        have hbA : Below wd.heap.size wd (wd.alloc (.cells #[.int .i64 1, .int .i64 N, .int .i64 0] 3)) := (Below.refl _ _).alloc (Nat.le_refl _) _
                        have hwd := hbd.size
                        have hb2d := (HA2.out.below (Hb4.out.trans (hbd.mono Hb4.out.size)) (HA2.out.lt (T.enc_ne _)))
                        have kt := Lib.hid (l2Times_any b2 o2 n2 c2 wd.heap.size 0 3 3 (.c m f b) (.c N .z .z) _ HT.out hnfN Hn2.out rfl (by omega) (by omega) hcc2 hm2 (Nat.le_refl _) (by unfold maxLen; omega) (hb2d.below hbA (hb2d.lt (T.enc_ne _))) hatl)
                        rw [mul_num] at kt
                        obtain ⟨tt, htt⟩ : ∃ tt, tt = T.c (m * N) f b := ⟨_, rfl⟩
                        rw [← htt] at kt
                        have htl : tt.enc.length ≤ 1000 := by rw [htt]; have h3 := hle2; rw [T.enc_len, T.body_c] at h3 ⊢; simp only [List.length_cons, List.length_append] at h3 ⊢; omega
                        have Htt := Lib.hid htt
                        have HbA := Lib.hid hbA
                        have Hbd := Lib.hid hbd
                        have Ho9d := Lib.hid ho9d
                        have Ho12d := Lib.hid ho2
                        have HE5 := Lib.hid hE5
                        have Hat14d := Lib.hid hat14d
                        clear ho1 hg1 hat1 ho10a hE1 hE2 hba hwa ho2 hg2 hat2 hb2 hlz hatz hE3 ho9d hE5 hbd ho14a ho14b ho10b hne18 ho14d hat14d hlit hatl hnfN hbA hb2d htt hne14
                        go_wp2_with fail
                        refine (kt.out).mono ?_
                        rintro ee we ⟨a18, c18, rfl, ho18, hb18⟩
                        obtain ⟨g18, rfl, hg18, hat18, hc18, hm18⟩ := own_row ho18
                        have hbe := HbA.out.trans (hb18.mono HbA.out.size)
                        have km := Lib.hid (l2Minus_any g14 0 u.enc.length c14 g18 0 tt.enc.length c18 u tt we rfl rfl (by omega) htl (fun x hx => by have := T.nf_times Hun.out x hx; omega) (fun x hx => by
                          rw [Htt.out] at hx
                          simp only [T.times, List.mem_cons] at hx
                          rcases hx with rfl | hx
                          · omega
                          · have := T.nf_times HT.out.2.2.2.1 x hx; omega) hcap14 hmax14 hc18 hm18 (Hat14d.out.below hbe (Hat14d.out.lt (T.enc_ne u))) hat18)
                        have Hbe := Lib.hid hbe
                        clear ho18 hb18 hat18 hbe
                        go_wp2_with fail
                        refine (km.out).mono ?_
                        rintro ee wf ⟨a19, c19, rfl, ho19, hb19⟩
                        have hfin : DivSF w4 (T.quo m f b s) (T.rem m f b s) (.slice av1 (qn + 1) cv1) (.slice av2 (qn + 1) cv2) (.slice a19 (T.minus u tt).enc.length c19) wf := by
                          have hbf := Hbe.out.trans (hb19.mono Hbe.out.size)
                          have hcq : (q.app (.c N .z .z)).cnt = qn + 1 := by rw [T.app_cnt, Hqn.out]; rfl
                          rw [HQ.out, HR.out, if_pos hNp, if_pos hNp, ← Htt.out]
                          unfold DivSF
                          rw [hcq]
                          have e1 : ints (q.app (.c N .z .z)).times = ints q.times ++ [.int .i64 N] := (ints_snoc q .z N).symm
                          exact ⟨_, _, _, _, _, _, _, rfl, rfl, rfl, by rw [e1]; exact ownsRow_below' Ho9d.out hbf, ownsRow_below' Ho12d.out hbf, (HE5.out.below hbf).ec, Joins.ownsRow_le ho19 (Nat.le_trans hwd Hbe.out.size), Hbd.out.trans (hbf.mono hwd)⟩
                        have Hfin := Lib.hid hfin
                        clear ho19 hb19 hfin
                        go_wp2_with fail
                        go_meet
                        exact Hfin.out
                      · have hN0' : N = 0 := by omega
                        have hfin : DivSF w4 (T.quo m f b s) (T.rem m f b s) (.slice a11 qn c11) (.slice a12 qn c12) (.slice (some ⟨g14, 0, none⟩) u.enc.length c14) wp := by
                          rw [HQ.out, HR.out, if_neg hNp, if_neg hNp, T.app_z]
                          unfold DivSF
                          rw [Hqn.out]
                          exact ⟨_, _, _, _, _, _, _, rfl, rfl, rfl, Ho9p.out, Ho10p.out, HEFp.out.ec, Joins.ownsRow_le Ho14p.out hwz, Hbp.out⟩
                        have Hfin := Lib.hid hfin
                        clear hfin hN0'
                        go_wp2_with fail
                        go_meet
                        exact Hfin.out
              case rest =>
                obtain ⟨es', a11', a12', a14', c11', c12', c14', rfl, rfl, rfl, ho11, ho12, hEC, ho14', hbv⟩ := hcut
                go_step
                obtain ⟨wv, rfl⟩ : ∃ wv : World, wv = wc := ⟨_, rfl⟩
                obtain ⟨hvq, hvr⟩ := T.div_vld (m := m) (f := f) (b := b) HS.out hle1 HT.out
                have hlq := (T.vldB_true.1 hvq).1
                obtain ⟨Q, hQ'⟩ : ∃ Q, Q = T.quo m f b s := ⟨_, rfl⟩
                obtain ⟨R, hR'⟩ : ∃ R, R = T.rem m f b s := ⟨_, rfl⟩
                rw [← hQ'] at ho11 ho12 hEC hvq hlq ⊢
                rw [← hR'] at ho14' hvr ⊢
                have HQ' := Lib.hid hQ'
                have HR' := Lib.hid hR'
                have kq := Lib.hid (l1Make_any a11' a12' Q.cnt c11' c12' Q wv (by omega) (sum_ex ho12 hEC rfl) (sum_sl ho11 rfl))
                have Ho14v := Lib.hid ho14'
                have Hbv := Lib.hid (Hb4.out.trans (hbv.mono Hb4.out.size))
                have Hvq := Lib.hid hvq
                have Hvr := Lib.hid hvr
                have hwv := hbv.size
                clear ho11 ho12 hEC ho14' hbv hQ' hR' hvq hvr
                go_wp2_with fail
                refine (kq.out).mono ?_
                rintro ee wa ⟨aq, cq, rfl, hoq, hba⟩
                have kf := Lib.hid (l2Fit_yes aq Q.enc.length cq Q.enc wa (Sl.of_own hoq) Hvq.out)
                have Hoq := Lib.hid hoq
                have Hba := Lib.hid (Hbv.out.trans (hba.mono Hbv.out.size))
                have Ho14a := Lib.hid (ownsRow_below' Ho14v.out hba)
                have hva := hba.size
                clear hoq hba
                go_wp2_with fail
                refine (kf.out).mono ?_
                rintro ee wb ⟨rfl, hbb⟩
                have Hbb := Lib.hid (Hba.out.trans (hbb.mono Hba.out.size))
                have Hoqb := Lib.hid (ownsRow_below' Hoq.out hbb)
                have Ho14b := Lib.hid (ownsRow_below' Ho14a.out hbb)
                have kg := Lib.hid (l2Fit_yes a14' R.enc.length c14' R.enc wb (Sl.of_own Ho14b.out) Hvr.out)
                clear hbb
                go_wp2_with fail
                refine (kg.out).mono ?_
                rintro ee wd ⟨rfl, hbd⟩
                have hfin : DivPost w qr rr ro (.returned (.tuple #[.slice aq Q.enc.length cq, .slice a14' R.enc.length c14', .bool true])) wd := by
                  rw [Hqr.out, Hrr.out, Hro.out, Hgood.out.1, Hgood.out.2.1, Hgood.out.2.2, ← HQ'.out, ← HR'.out]
                  refine ⟨aq, cq, a14', c14', rfl, Joins.ownsRow_le (ownsRow_below' Hoqb.out hbd) Hbv.out.size, Joins.ownsRow_le (ownsRow_below' Ho14b.out hbd) Hb4.out.size, ?_, Hbb.out.trans (hbd.mono Hbb.out.size)⟩
                  cases hv : (Value.slice aq Q.enc.length cq).ownBlock with
                  | none => exact .inl rfl
                  | some g =>
                    refine .inr (fun he => ?_)
                    have h3 := (Hoq.out.lt g hv).1
                    have h4 := (Ho14v.out.lt g he.symm).2
                    omega
                have Hfin := Lib.hid hfin
                clear hbd hfin
                go_wp2_with fail
                go_ret3
                exact Hfin.out
    · have hbad := T.div_bad (xs := xs) (ys := ys) (.inr (.inl h2))
      rw [hbad.1, hbad.2.1, hbad.2.2]
      have H2v := Lib.hid h2
      clear hx hy h1 h2 hbad
      go_enter Try.func18, Try.ntmps18
      go_wp2_with fail
      refine (k1.out).mono ?_
      rintro ee w1 ⟨rfl, hb1⟩
      have Hb1 := Lib.hid hb1
      have k2 := Lib.hid (spec_valid a2 n2 c2 ys w1 (HY.out.below hb1) H2v.out)
      clear hb1
      go_wp2_with fail
      refine (k2.out).mono ?_
      rintro ee w2 ⟨rfl, hb2⟩
      have Hb2 := Lib.hid (Hb1.out.trans (hb2.mono Hb1.out.size))
      clear hb2
      go_wp2_with fail
      go_ret3
      exact Hlit.out _ Hb2.out
  · have hbad := T.div_bad (xs := xs) (ys := ys) (.inl h1)
    have k1 := Lib.hid (spec_valid a1 n1 c1 xs w hx h1)
    rw [hbad.1, hbad.2.1, hbad.2.2]
    clear hx hy h1 hbad
    go_enter Try.func18, Try.ntmps18
    go_wp2_with fail
    refine (k1.out).mono ?_
    rintro ee w1 ⟨rfl, hb1⟩
    have Hb1 := Lib.hid hb1
    clear hb1
    go_wp2_with fail
    go_ret3
    exact Hlit.out _ Hb1.out

end Go.Proofs.Ytaleaagnkfbhpaa

/- The program's OrdDivide. -/
import Derived.Test.YtaleaagnkfbhpaaDivI
import Derived.Test.YtaleaagnkfbhpaaMulS
import Derived.Deep.DeepCutAuto
import Derived.Deep.CutBlock
namespace Go.Proofs.Ytaleaagnkfbhpaa
open Go.RowKit

def DivPost (w : World) (q r : List Int) (o : Bool) (e : Ending) (w' : World) : Prop :=
  ∃ a1 c1 a2 c2, e = .returned (.tuple #[.slice a1 q.length c1, .slice a2 r.length c2, .bool o]) ∧ w'.ownsRow w.heap.size 3 1 (.slice a1 q.length c1) q.length (ints q) ∧ w'.ownsRow w.heap.size 3 1 (.slice a2 r.length c2) r.length (ints r) ∧
    ((Value.slice a1 q.length c1).ownBlock = none ∨ (Value.slice a1 q.length c1).ownBlock ≠ (Value.slice a2 r.length c2).ownBlock) ∧ Below w.heap.size w w'

theorem DivPost.bad {w w' : World} (hb : Below w.heap.size w w') : DivPost w [] [] false (.returned (.tuple #[.slice none 0 0, .slice none 0 0, .bool false])) w' :=
  ⟨none, 0, none, 0, rfl, nil_own w w', nil_own w w', .inl rfl, hb⟩

def DivRel (w : World) (m : Int) (f b s : T) (gk : Nat) (v7 v9 : Value) (wr : World) : Prop :=
  ∃ (u q : T) (l cs : List Value) (bl ol n k qn c9 : Nat) (a9 : Option Addr), gk = n ∧ u.Nf ∧ u.enc.length ≤ 60 ∧ T.quo m f b s = q.app (T.quo m f b u) ∧ T.rem m f b s = T.rem m f b u ∧ q.cnt = qn ∧ qn + n ≤ 100 ∧
    v7 = .slice (some ⟨bl, ol, none⟩) n k ∧ Rw w bl ol n k u l ∧ v9 = .slice a9 qn c9 ∧ wr.ownsRow w.heap.size 46 2 v9 qn cs ∧ TF wr v9.ownBlock q cs ∧ Below w.heap.size w wr

def DivEnd (w : World) (m : Int) (f b s : T) (v7 v9 : Value) (wr : World) : Prop :=
  ∃ (u q : T) (l cs : List Value) (bl ol n k qn c9 : Nat) (a9 : Option Addr), T.Low f u ∧ u.Nf ∧ u.enc.length ≤ 60 ∧ T.quo m f b s = q.app (T.quo m f b u) ∧ T.rem m f b s = T.rem m f b u ∧ q.cnt = qn ∧ qn + n ≤ 100 ∧
    v7 = .slice (some ⟨bl, ol, none⟩) n k ∧ Rw w bl ol n k u l ∧ v9 = .slice a9 qn c9 ∧ wr.ownsRow w.heap.size 46 2 v9 qn cs ∧ TF wr v9.ownBlock q cs ∧ Below w.heap.size w wr

def DivFin (w : World) (Q R : T) (v7 v9 : Value) (wx : World) : Prop :=
  ∃ (a7 a9 : Option Addr) (n7 k7 n9 c9 : Nat), v7 = .slice a7 n7 k7 ∧ Tmo wx a7 n7 R ∧ v9 = .slice a9 n9 c9 ∧ Tm wx a9 n9 Q ∧ Below w.heap.size w wx

theorem own_apart {W1 W2 : World} {B1 B2 e1 e2 n1 n2 s1 s2 : Nat} {v1 v2 : Value} {xs1 xs2 : List Value} (h1 : W1.ownsRow B1 e1 s1 v1 n1 xs1) (h2 : W2.ownsRow B2 e2 s2 v2 n2 xs2) (h : W1.heap.size ≤ B2) :
    v1.ownBlock = none ∨ v1.ownBlock ≠ v2.ownBlock := by
  cases hv : v1.ownBlock with
  | none => exact .inl rfl
  | some g =>
    refine .inr (fun he => ?_)
    have h3 := (h1.lt g hv).2
    have h4 := (h2.lt g he.symm).1
    omega

set_option maxRecDepth 100000 in
set_option maxHeartbeats 8000000 in
theorem impl_OrdDivide (a1 a2 : Option Addr) (n1 c1 n2 c2 : Nat) (xs ys : List Int) (w : World) (hx : Sl w a1 n1 c1 xs) (hy : Sl w a2 n2 c2 ys) :
    Calls Try.prog 19 #[.slice a1 n1 c1, .slice a2 n2 c2] w (DivPost w (T.quoRow xs ys) (T.remRow xs ys) (T.divOk xs ys)) := by
  obtain ⟨i0, hi, hz0, hz1, hz2⟩ := info_parts info_term
  have HX := Lib.hid hx
  have HY := Lib.hid hy
  rcases vld_tf xs with h1 | h1
  · have k1 := Lib.hid (impl_valid a1 n1 c1 xs w hx h1)
    rcases vld_tf ys with h2 | h2
    · obtain ⟨qr, hqr⟩ : ∃ qr, qr = T.quoRow xs ys := ⟨_, rfl⟩
      obtain ⟨rr, hrr⟩ : ∃ rr, rr = T.remRow xs ys := ⟨_, rfl⟩
      obtain ⟨ro, hro⟩ : ∃ ro, ro = T.divOk xs ys := ⟨_, rfl⟩
      rw [← hqr, ← hrr, ← hro]
      have H1v := Lib.hid h1
      have H2v := Lib.hid h2
      obtain ⟨b1, o1, s, rfl, rfl, hs, hos, hat1, hn1, hl1, hp1, hcc1, hm1⟩ := hx.valid h1
      obtain ⟨b2, o2, t, rfl, rfl, ht, hot, hat2, hn2, hl2, hp2, hcc2, hm2⟩ := hy.valid h2
      have Hqr := Lib.hid hqr
      have Hrr := Lib.hid hrr
      have Hro := Lib.hid hro
      have Hos := Lib.hid hos
      have Hot := Lib.hid hot
      have Hn1 := Lib.hid hn1
      have Hn2 := Lib.hid hn2
      have HA1 := Lib.hid hat1
      have HA2 := Lib.hid hat2
      have HS := Lib.hid hs
      have HT := Lib.hid ht
      have hle1 : s.enc.length ≤ 60 := by omega
      have hle2 : t.enc.length ≤ 60 := by omega
      clear hx hy h1 h2 hos hot hat1 hat2 hs ht hn1 hn2 hqr hrr hro
      go_enter Try.func19, Try.ntmps19
      go_wp2_with fail
      refine (k1.out).mono ?_
      rintro ee w1 ⟨rfl, hb1⟩
      have Hb1 := Lib.hid hb1
      have k2 := Lib.hid (impl_valid (some ⟨b2, o2, none⟩) n2 c2 t.enc w1 (HY.out.below hb1) H2v.out)
      clear hb1
      go_wp2_with fail
      refine (k2.out).mono ?_
      rintro ee w2 ⟨rfl, hb2⟩
      have Hb2 := Lib.hid (Hb1.out.trans (hb2.mono Hb1.out.size))
      have HA2w := Lib.hid (HA2.out.below Hb2.out (HA2.out.lt (T.enc_ne t)))
      have kz := Lib.hid (isZero_any b2 o2 n2 c2 (t.cnt : Int) w2 hp2 HA2w.out.head)
      clear hb2
      by_cases htz : t = .z
      · subst htz
        have hz : (((T.z).cnt : Nat) : Int) = 0 := rfl
        have hbad := T.div_bad (xs := s.enc) (ys := (T.z).enc) (.inr (.inr Hot.out))
        have hfin : DivPost w qr rr ro (.returned (.tuple #[.slice none 0 0, .slice none 0 0, .bool false])) w2 := by
          rw [Hqr.out, Hrr.out, Hro.out, hbad.1, hbad.2.1, hbad.2.2]
          exact DivPost.bad Hb2.out
        have Hfin := Lib.hid hfin
        rw [hz] at kz
        clear hbad hfin
        go_wp2_with fail
        refine (kz.out).mono ?_
        rintro ee w3 ⟨rfl, rfl⟩
        go_wp2_with fail
        go_ret3
        exact Hfin.out
      · obtain ⟨m, f, b, rfl⟩ : ∃ m f b, t = .c m f b := by
          cases t with
          | z => exact absurd rfl htz
          | c m f b => exact ⟨m, f, b, rfl⟩
        have hz : ((((T.c m f b).cnt : Nat) : Int) == 0) = false := by simp [T.cnt]; omega
        rw [hz] at kz
        have hgood := T.div_good (xs := s.enc) (ys := (T.c m f b).enc) H1v.out H2v.out Hot.out
        rw [Hos.out] at hgood
        have Hgood := Lib.hid hgood
        clear htz hz hgood
        go_wp2_with fail
        refine (kz.out).mono ?_
        rintro ee w3 ⟨rfl, rfl⟩
        have k3 := Lib.hid (termsOf_any b1 o1 n1 c1 s.enc s w2 Hn1.out.symm (by omega) hcc1 hm1 (HA1.out.below Hb2.out (HA1.out.lt (T.enc_ne s))) rfl)
        go_wp2_with fail
        refine (k3.out).mono ?_
        rintro ee w3 ⟨cs, rfl, ho3, ht3, hb3⟩
        have Hb3 := Lib.hid (Hb2.out.trans (hb3.mono Hb2.out.size))
        have Hz3 := Lib.hid (Tz.of_own ho3 ht3 rfl)
        have k4 := Lib.hid (termsOf_any b2 o2 n2 c2 (T.c m f b).enc (T.c m f b) w3 Hn2.out.symm (by omega) hcc2 hm2 (HA2.out.below Hb3.out (HA2.out.lt (T.enc_ne (T.c m f b)))) rfl)
        clear ho3 ht3 hb3
        go_wp2_with fail
        refine (k4.out).mono ?_
        rintro ee w4 ⟨ds, rfl, ho4, ht4, hb4⟩
        have Hb4 := Lib.hid (Hb3.out.trans (hb4.mono Hb3.out.size))
        have HRs := Lib.hid (Rw.of_tz (Hz3.out.below hb4))
        have Hz4 := Lib.hid (Tz.of_own ho4 ht4 rfl)
        have hs34 := hb4.size
        have hg4 : w3.heap.size < w4.heap.size := Hz4.out.2.2.2.2.1
        obtain ⟨bf, of, cf, ds', hds, hatf, hcf, hcfm, hTb⟩ := Hz4.out.2.2.2.1
        have Hds := Lib.hid hds
        have HTb := Lib.hid hTb
        obtain ⟨nt, hnt⟩ : ∃ nt, nt = (T.c m f b).cnt := ⟨_, rfl⟩
        have hnt0 : 0 < nt := by rw [hnt]; simp [T.cnt]
        have hntb : nt ≤ 60 := by have := T.cnt_le (T.c m f b); have := T.enc_len (T.c m f b); omega
        have hnt1 : (0 : Int) < (nt : Int) := by omega
        have v1 : w4.cell? ⟨w3.heap.size, 1, none⟩ = some (.slice (some ⟨bf, of, none⟩) f.enc.length cf) := by rw [Hz4.out.2.2.2.2.2 1 (by omega), hds]; rfl
        have hfl : f.enc.length ≤ 60 := by have h1 := T.enc_len (T.c m f b); rw [T.body_c, List.length_cons, List.length_append] at h1; omega
        have hsn : s.cnt ≤ 60 := by have := T.cnt_le s; have := T.enc_len s; omega
        have hst : DivRel w4 m f b s s.cnt (.slice (some ⟨w2.heap.size, 0, none⟩) s.cnt s.cnt) (.slice none 0 0) w4 :=
          ⟨s, .z, cs, [], w2.heap.size, 0, s.cnt, s.cnt, 0, 0, none, rfl, HS.out, hle1, rfl, rfl, rfl, by omega, rfl, HRs.out, rfl, ⟨rfl, .inl ⟨rfl, rfl⟩⟩, rfl, Below.refl _ _⟩
        have Hst := Lib.hid hst
        have Hatf := Lib.hid hatf
        have Hnt := Lib.hid hnt
        rw [← hnt]
        clear ho4 ht4 hb4 hds hatf hst hnt hTb
        go_upto_block 0 with fail
        go_cut [7, 9] (fun v7 v9 wx => DivEnd w4 m f b s v7 v9 wx)
        case first =>
          go_wp2_with fail
          go_loopg [7, 9] s.cnt (fun gk v7 v9 wr => DivRel w4 m f b s gk v7 v9 wr)
          case atStart => exact Hst.out
          case round =>
            obtain ⟨u, q, l, qs, bl, ol, n, k, qn, c9, a9, hgk, hun, hul, hquo, hrem, hqn, hqb, rfl, hRw, rfl, ho, hTF, hbw⟩ := hrel
            have Hgk := Lib.hid hgk
            have Hun := Lib.hid hun
            have Hquo := Lib.hid hquo
            have Hrem := Lib.hid hrem
            have Hqn := Lib.hid hqn
            have HRw := Lib.hid hRw
            have Ho := Lib.hid ho
            have HTF := Lib.hid hTF
            have Hbw := Lib.hid hbw
            have hws := hbw.size
            have hnu : n = u.cnt := hRw.1
            have hnk : n ≤ k := hRw.2.1
            have hbl : bl < w4.heap.size := hRw.2.2.2.2.1
            have hend : T.Low f u → ∀ wx, Below wr.heap.size wr wx → DivEnd w4 m f b s (.slice (some ⟨bl, ol, none⟩) n k) (.slice a9 qn c9) wx := fun h wx hb =>
              ⟨u, q, l, qs, bl, ol, n, k, qn, c9, a9, h, hun, hul, hquo, hrem, hqn, hqb, rfl, hRw, rfl, ownsRow_below' ho hb, hTF.below hb, hbw.trans (hb.mono hws)⟩
            have Hend := Lib.hid hend
            have Hnu := Lib.hid hnu
            clear hgk hun hquo hrem hqn hRw ho hTF hbw hend hnu
            by_cases huz : u = .z
            · have hn0 : n = 0 := by rw [Hnu.out, huz]; rfl
              have Hlow := Lib.hid (show T.Low f u from fun n e r h => by rw [huz] at h; cases h)
              clear huz
              subst hn0
              go_wp2_with fail
              go_quiet (fail)
              go_wp2_with fail
              go_meet
              exact Hend.out Hlow.out _ (Joins.below_draws _ _ _)
            · obtain ⟨x, e, r, rfl⟩ : ∃ x e r, u = .c x e r := by
                cases u with
                | z => exact absurd rfl huz
                | c x e r => exact ⟨x, e, r, rfl⟩
              have hn0 : 0 < n := by rw [Hnu.out]; simp [T.cnt]
              have hn1' : (0 : Int) < (n : Int) := by omega
              obtain ⟨be, oe, ce, l', hl', hate, hce, hcem, _⟩ := HRw.out.2.2.2.1
              have y0 : wr.cell? ⟨bl, ol, none⟩ = some (.int .i64 x) := (Hbw.out.cell (p := ⟨bl, ol, none⟩) hbl).trans (HRw.out.2.2.2.2.2 0 _ (by rw [hl']; rfl))
              have y1 : wr.cell? ⟨bl, ol + 1, none⟩ = some (.slice (some ⟨be, oe, none⟩) e.enc.length ce) := (Hbw.out.cell (p := ⟨bl, ol + 1, none⟩) hbl).trans (HRw.out.2.2.2.2.2 1 _ (by rw [hl']; rfl))
              have v1r : wr.cell? ⟨w3.heap.size, 1, none⟩ = some (.slice (some ⟨bf, of, none⟩) f.enc.length cf) := (Hbw.out.cell (p := ⟨w3.heap.size, 1, none⟩) hg4).trans v1
              have hel : e.enc.length ≤ 60 := by have h1 := T.enc_len (T.c x e r); rw [T.body_c, List.length_cons, List.length_append] at h1; omega
              have kc := Lib.hid (compareOrds_any (e.body.length + 1) be oe ce bf of cf e.enc.length f.enc.length e f wr.drew (by omega) rfl rfl (by omega) (by omega) hce hcem hcf hcfm (hate.below Hbw.out.drew (hate.lt (T.enc_ne e))) (Hatf.out.below Hbw.out.drew (Hatf.out.lt (T.enc_ne f))))
              obtain ⟨cv, hcv⟩ : ∃ cv, cv = e.cmp f := ⟨_, rfl⟩
              rw [← hcv] at kc
              have Hcv := Lib.hid hcv
              have Hate := Lib.hid hate
              clear huz hl' hate hcv
              go_wp2_with fail
              go_still_tail 12, (by kernel_rfl)
              change wpList _ _ _ _ _ wr.drew
              go_wp2_with fail
              refine (kc.out).mono ?_
              rintro ee w5 ⟨rfl, hb5⟩
              have hb5' : Below wr.heap.size wr w5 := ((Below.refl wr.heap.size wr).drew).trans hb5
              have Hb5 := Lib.hid hb5'
              clear hb5
              by_cases hcp : 0 < cv
              · have hgt : e.cmp f = 1 := by have h1 := Hcv.out; rcases T.cmp_vals e f with h | h | h <;> omega
                have z0 := (hb5'.cell (p := ⟨bl, ol, none⟩) (by show bl < wr.heap.size; omega)).trans y0
                have z1 := (hb5'.cell (p := ⟨bl, ol + 1, none⟩) (by show bl < wr.heap.size; omega)).trans y1
                have zv := (hb5'.cell (p := ⟨w3.heap.size, 1, none⟩) (by show w3.heap.size < wr.heap.size; omega)).trans v1r
                have hbw5 := Hbw.out.trans (hb5'.mono hws)
                have HTF5 := Lib.hid (HTF.out.below hb5')
                have Ho5 := Lib.hid (ownsRow_below' Ho.out hb5')
                have Hbw5 := Lib.hid hbw5
                have hw5 := hbw5.size
                have Hgt := Lib.hid hgt
                clear hb5' y0 y1 v1r hbw5 hgt
                have hg3 : Below w5.heap.size w5 w5.drew := (Below.refl _ _).drew
                have kt1 := Lib.hid (termsOf_any be oe e.enc.length ce e.enc e w5.drew rfl (by omega) hce hcem (Hate.out.below Hbw5.out.drew (Hate.out.lt (T.enc_ne e))) rfl)
                have hbl5 : bl < w5.heap.size := by omega
                have hw35 : w3.heap.size < w5.heap.size := by omega
                go_wp2_with fail
                go_region_held3 (fun w' => w'.cell? ⟨bl, ol + 1, none⟩ = some (.slice (some ⟨be, oe, none⟩) e.enc.length ce) ∧ w'.cell? ⟨w3.heap.size, 1, none⟩ = some (.slice (some ⟨bf, of, none⟩) f.enc.length cf)) (first | go_keep | exact ⟨kS0, kS1⟩ | exact ⟨kT0, kT1⟩ | exact ⟨kU0, kU1⟩)
                  ((first
                    | (go_at_call 30; (with_reducible refine (kt1.out).mono ?_); rintro ee wa ⟨ea, rfl, hoa, hta, hba⟩; have kS0 := (hba.cell (p := ⟨bl, ol + 1, none⟩) hbl5).trans z1; have kS1 := (hba.cell (p := ⟨w3.heap.size, 1, none⟩) hw35).trans zv; have hba' := Hbw5.out.drew.trans (hba.mono Hbw5.out.drew.size); have hza : Tz wa w5.heap.size e.cnt e.cnt e ea := Tz.of_own hoa hta rfl; have kt2 := termsOf_any bf of f.enc.length cf f.enc f wa rfl (by omega) hcf hcfm (Hatf.out.below hba' (Hatf.out.lt (T.enc_ne f))) rfl)
                    | (go_at_call 30; (with_reducible refine kt2.mono ?_); rintro ee wb ⟨eb, rfl, hob, htb, hbb⟩; have kT0 := (hbb.cell (p := ⟨bl, ol + 1, none⟩) (by have := hba.size; show bl < wa.heap.size; exact Nat.lt_of_lt_of_le hbl5 this)).trans kS0; have kT1 := (hbb.cell (p := ⟨w3.heap.size, 1, none⟩) (by have := hba.size; show w3.heap.size < wa.heap.size; exact Nat.lt_of_lt_of_le hw35 this)).trans kS1; have kb := termsBehind_any w5.heap.size 0 e.cnt e.cnt wa.heap.size 0 f.cnt f.cnt e f ea eb wb (Rw.of_tz (hza.below hbb)) (Rw.of_tz (Tz.of_own hob htb rfl)) (by omega) (by omega) (fun x hx => by have := T.nf_times Hun.out.2.2.1 x hx; omega) (fun x hx => by have := T.nf_times HT.out.2.2.1 x hx; omega) (by rw [Hgt.out]; decide))
                    | (go_at_call 40; (with_reducible refine kb.mono ?_); rintro ee wd ⟨aB, nB, cB, rfl, htm, hbd⟩; have kU0 := (hbd.cell (p := ⟨bl, ol + 1, none⟩) (by have h1 := hba.size; have h2 := hbb.size; show bl < wb.heap.size; exact Nat.lt_of_lt_of_le hbl5 (Nat.le_trans h1 h2))).trans kT0; have kU1 := (hbd.cell (p := ⟨w3.heap.size, 1, none⟩) (by have h1 := hba.size; have h2 := hbb.size; show w3.heap.size < wb.heap.size; exact Nat.lt_of_lt_of_le hw35 (Nat.le_trans h1 h2))).trans kT1)
                    | fail))
                have hbd5 : Below w5.heap.size w5 wd := hg3.trans ((hba.trans (hbb.mono hba.size)).trans (hbd.mono (Nat.le_trans hba.size hbb.size)))
                have hbd4 := Hbw5.out.trans (hbd5.mono hw5)
                have HTFd := Lib.hid (HTF5.out.below hbd5)
                have Hod := Lib.hid (ownsRow_below' Ho5.out hbd5)
                have Hbd := Lib.hid hbd4
                have hwd := hbd4.size
                have yd0 : wd.cell? ⟨bl, ol, none⟩ = some (.int .i64 x) := (hbd5.cell (p := ⟨bl, ol, none⟩) hbl5).trans z0
                have hml : (T.minus e f).enc.length ≤ 60 := by have h1 := T.minus_len e f; have := T.enc_len e; have := T.enc_len (T.minus e f); omega
                have k7 := Lib.hid (ordOfTerms_at aB nB cB (T.minus e f) wd.drew (by omega) (htm.below (Below.refl _ _).drew))
                obtain ⟨M, hM⟩ : ∃ M, M = T.minus e f := ⟨_, rfl⟩
                rw [← hM] at k7 hml
                have HM := Lib.hid hM
                have hbld : bl < wd.heap.size := by omega
                have hqn : qn ≤ 100 := by omega
                clear kS0 kS1 kT0 kT1 kU0 kU1 hba hbb hbd hoa hta hob htb kt2 kb hza htm hba' hbd5 hbd4 hg3 hM z0 z1 zv
                go_wp2_with fail
                go_region_held3 (fun w' => w'.cell? ⟨bl, ol, none⟩ = some (.int .i64 x)) (first | go_keep | exact kS0 | exact kT0)
                  ((first
                    | (go_at_call 39; (with_reducible refine (k7.out).mono ?_); rintro ee we ⟨aN, cN, rfl, hoN, hbN⟩; have hbN' : Below wd.heap.size wd we := ((Below.refl wd.heap.size wd).drew).trans hbN; obtain ⟨gN, rfl, hgN, hatN, hcN, hmN⟩ := own_row hoN; have kS0 := (hbN'.cell (p := ⟨bl, ol, none⟩) hbld).trans yd0; have hoE := ownsRow_below' Hod.out hbN'; have hwe := hbN'.size)
                    | (refine step_append_own_at (by rfl) (.tmp 54) (.tmp 62) 40 (by rfl) w4.heap.size 46 i0 (.agg #[.int .i64 0, .slice none 0 0]) 2 32 Try.underlying40 hi hz0 hz1 hz2 rfl (by decide) _ qn qs (by rfl) (hoE.alloc _) ⟨we.heap.size, 0, none⟩ 1 1 [.int .i64 x, .slice (some ⟨gN, 0, none⟩) M.enc.length cN] (by rfl) (by rfl) (cell_two_new _ _ _ _) (two_one _ _ rfl rfl) (by unfold maxLen; omega) (by omega) (by simp; omega) ?_; intro v6 w6 ho6 hg6 _ hat6; have kT0 : w6.cell? ⟨bl, ol, none⟩ = some (.int .i64 x) := hg6.cell (a := ⟨bl, ol, none⟩) ((World.cell?_alloc_past _ _ _ (show bl < we.heap.size by omega)).trans kS0) (fun h => by have h9 : w4.heap.size ≤ bl := (Hod.out.lt _ h.symm).1; omega))
                    | fail))
                obtain ⟨a6, c6, rfl⟩ := own_shape ho6
                obtain ⟨b', o', hif, hRt⟩ := HRw.out.tail
                have hfin : DivRel w4 m f b s (n - 1) (.slice (some ⟨b', o', none⟩) (n - 1) (k - 1)) (.slice a6 (qn + 1) c6) w6 := by
                  have hTe := (HTFd.out.below hbN').below ((Below.refl we.heap.size we).alloc (Nat.le_refl _) (.cells #[.int .i64 x, .slice (some ⟨gN, 0, none⟩) M.enc.length cN] 46))
                  have hTs := hTe.snoc (n := x) (hatN.alloc (T.enc_ne M) _) (own_row_lt Hod.out hgN) hcN hmN
                  refine ⟨r, q.app (.c x M .z), l.drop 2, _, b', o', n - 1, k - 1, qn + 1, c6, a6, rfl, Hun.out.2.2.2.1, by have h1 := T.enc_len (T.c x e r); rw [T.body_c, List.length_cons, List.length_append] at h1; have := T.enc_len r; omega, ?_, ?_, by rw [T.app_cnt, Hqn.out]; rfl, by omega, rfl, hRt, rfl, ho6,
                    hTs.go hg6 (fun _ _ => .inl rfl) (fun k' e' => ?_), ((Hbd.out.trans (hbN'.mono hwd)).alloc (by omega) _).grown hg6 (by simp; omega) (fun k' h => (Hod.out.lt k' h).1)⟩
                  · rw [Hquo.out, (T.quo_more r Hgt.out).1, T.app_assoc, HM.out]; rfl
                  · rw [Hrem.out, (T.quo_more r Hgt.out).2]
                  · rcases hat6 with h | h
                    · exact .inl h
                    · right
                      rw [h] at e'
                      cases e'
                      exact Nat.le_refl _
                have Hfin := Lib.hid hfin
                have Hif := Lib.hid hif
                have hk1 : (1 : Int) ≤ (n : Int) := by omega
                have hk2 : (n : Int) ≤ (k : Int) := by omega
                have hk3 : (1 : Int) ≤ (k : Int) := by omega
                clear ho6 hg6 hat6 hoN hbN hbN' hatN hoE kS0 kT0 hRt hfin hif
                by_cases hkk : k = 1
                · have hkk2 : (k : Int) = 1 := by omega
                  have hnn : n = 1 := by omega
                  have h9 := Hif.out
                  rw [if_pos hkk] at h9
                  have H9 := Lib.hid h9
                  clear h9
                  subst hkk
                  subst hnn
                  go_wp2_with fail
                  go_roundg 0
                  case measure => have := Hgk.out; omega
                  case rel => have h8 := Hfin.out; rw [← H9.out] at h8; exact h8
                · have hkk2 : ¬ (k : Int) = 1 := by omega
                  have h9 := Hif.out
                  rw [if_neg hkk] at h9
                  have H9 := Lib.hid h9
                  clear h9
                  go_wp2_with fail
                  go_roundg (n - 1)
                  case measure => have := Hgk.out; omega
                  case rel => have h8 := Hfin.out; rw [← H9.out] at h8; exact h8
              · have Hlow := Lib.hid (show T.Low f (.c x e r) from fun n' e' r' h => by cases h; have := Hcv.out; omega)
                clear y0 y1 v1r hb5'
                go_wp2_with fail
                go_meet
                exact Hend.out Hlow.out _ Hb5.out
        case rest =>
          obtain ⟨u, q, l, qs, bl, ol, n, k, qn, c9, a9, hlow, hun, hul, hquo, hrem, hqn, hqb, rfl, hRw, rfl, ho, hTF, hbw⟩ := hcut
          go_step
          obtain ⟨wz, rfl⟩ : ∃ wz : World, wz = wc := ⟨_, rfl⟩
          obtain ⟨N, hN⟩ : ∃ N, N = T.timesN m f b u := ⟨_, rfl⟩
          have kT := Lib.hid (timesIn_any bl ol n k w3.heap.size nt nt u m f b l ds wz (hRw.below hbw) (by have h := Hz4.out.below hbw; rw [← Hnt.out] at h; exact h) hun HT.out (by omega) (by omega))
          rw [← hN] at kT
          obtain ⟨t1, t2, t3⟩ := T.timesN_spec (m := m) (f := f) (b := b) HT.out.1 hun
          obtain ⟨ql, rl⟩ := T.quo_low (m := m) (b := b) hlow
          rw [← hN] at t1 t2 t3 ql rl
          have hQ : T.quo m f b s = q.app (if 0 < N then .c N .z .z else .z) := by rw [hquo, ql]
          have hR : T.rem m f b s = if 0 < N then T.minus u (.c (m * N) f b) else u := by rw [hrem, rl]
          have HQ := Lib.hid hQ
          have HR := Lib.hid hR
          have T3 := Lib.hid t3
          have Hun := Lib.hid hun
          have Hqn := Lib.hid hqn
          have HRw := Lib.hid hRw
          have Ho := Lib.hid ho
          have HTF := Lib.hid hTF
          have Hbw := Lib.hid hbw
          have hws := hbw.size
          clear hlow hun hquo hrem hqn hRw ho hTF hbw hN t3 ql rl hQ hR
          go_wp2_with fail
          refine (kT.out).mono ?_
          rintro ee w5 ⟨rfl, hb5⟩
          have hbw5 := Hbw.out.trans (hb5.mono hws)
          have Hbw5 := Lib.hid hbw5
          have HTF5 := Lib.hid (HTF.out.below hb5)
          have Ho5 := Lib.hid (ownsRow_below' Ho.out hb5)
          have hw5 := hbw5.size
          clear hb5 hbw5
          go_upto_if 70 with fail
          go_cut [7, 9] (fun v7 v9 wx => DivFin w4 (T.quo m f b s) (T.rem m f b s) v7 v9 wx)
          case first =>
            by_cases hNp : 0 < N
            · obtain ⟨p1, p2, p3⟩ := T3.out hNp
              have k0 := Lib.hid (impl_OrdOf 0 w5 (by decide) (by decide))
              rw [show T.num' 0 = (T.z).enc from rfl] at k0
              have P3 := Lib.hid p3
              clear p3
              go_wp2_with fail
              refine (k0.out).mono ?_
              rintro ee w6 ⟨aN, cN, rfl, hoN, hbN⟩
              obtain ⟨gN, rfl, hgN, hatN, hcN, hmN⟩ := own_row hoN
              have Hb6 := Lib.hid (Hbw5.out.trans (hbN.mono hw5))
              have hw6 := Hb6.out.size
              have HTF6 := Lib.hid (HTF5.out.below hbN)
              have Ho6 := Lib.hid (ownsRow_below' Ho5.out hbN)
              have HatN := Lib.hid hatN
              have h56 := hbN.size
              clear hoN hbN hatN
              go_wp2_with (first
                | (at_builtin; refine wpList_append_own_at _ rfl (.tmp 71) (.tmp 75) 40 rfl w4.heap.size 46 i0 (.agg #[.int .i64 0, .slice none 0 0]) 2 32 Try.underlying40 hi hz0 hz1 hz2 rfl (by decide) _ qn qs rfl (Ho6.out.alloc _) ⟨w6.heap.size, 0, none⟩ 1 1 [.int .i64 N, .slice (some ⟨gN, 0, none⟩) (T.z).enc.length cN] rfl rfl (cell_two_new _ _ _ _) (two_one _ _ rfl rfl) (by unfold maxLen; omega) (by omega) (by simp; omega) ?_; intro v7 w7 ho7 hg7 _ hat7))
              obtain ⟨a7, c7, rfl⟩ := own_shape ho7
              have hb7 := (Hb6.out.alloc hw6 _).grown hg7 (by simp; omega) (fun k' h => (Ho6.out.lt k' h).1)
              have hT7 : TC w7 (q.app (.c N .z .z)) (qs ++ [.int .i64 N, .slice (some ⟨gN, 0, none⟩) (T.z).enc.length cN]) := by
                have hTe := HTF6.out.below ((Below.refl w6.heap.size w6).alloc (Nat.le_refl _) (.cells #[.int .i64 N, .slice (some ⟨gN, 0, none⟩) (T.z).enc.length cN] 46))
                have hTs := hTe.snoc (n := N) (HatN.out.alloc (T.enc_ne .z) _) (own_row_lt Ho5.out hgN) hcN hmN
                exact (hTs.go hg7 (fun _ _ => .inl rfl) (fun _ _ => .inl rfl)).tc
              have htm7 := Tm.of_own ho7 hT7 (by rw [T.app_cnt, Hqn.out]; rfl)
              have Htm7 := Lib.hid htm7
              have Hb7 := Lib.hid hb7
              have hw7 := hb7.size
              have kn := Lib.hid (timesNumber_any w3.heap.size nt nt bf of cf m N f b ds' w7 (by have h := Hz4.out.below hb7; rw [← Hnt.out, Hds.out] at h; exact h) (by omega) (by omega) (by omega))
              clear ho7 hg7 hat7 hT7 htm7 hb7
              go_wp2_with fail
              refine (kn.out).mono ?_
              rintro ee w8 ⟨g8, c8, rfl, ho8, hb8⟩
              have Hb8 := Lib.hid (Hb7.out.trans (hb8.mono hw7))
              have hw8 := Hb8.out.size
              have hTC : TC w8 (.c (m * N) f b) (.int .i64 (m * N) :: .slice (some ⟨bf, of, none⟩) f.enc.length cf :: ds') := ⟨bf, of, cf, ds', rfl, Hatf.out.below Hb8.out (Hatf.out.lt (T.enc_ne f)), hcf, hcfm, HTb.out.below Hb8.out⟩
              have hz8 : Tz w8 g8 nt c8 (.c (m * N) f b) (.int .i64 (m * N) :: .slice (some ⟨bf, of, none⟩) f.enc.length cf :: ds') := Tz.of_own ho8 hTC (by rw [Hnt.out]; rfl)
              have htl : (T.c (m * N) f b).enc.length ≤ 1000 := by have h3 := hle2; rw [T.enc_len, T.body_c] at h3 ⊢; simp only [List.length_cons, List.length_append] at h3 ⊢; omega
              have kb := Lib.hid (termsBehind_any bl ol n k g8 0 nt c8 u (.c (m * N) f b) l _ w8 (HRw.out.below Hb8.out) (Rw.of_tz hz8) (by omega) htl
                (fun x hx => by have := T.nf_times Hun.out x hx; omega) (fun x hx => by
                  simp only [T.times, List.mem_cons] at hx
                  rcases hx with rfl | hx
                  · omega
                  · have := T.nf_times HT.out.2.2.2.1 x hx; omega) P3.out)
              have Htm8 := Lib.hid (Htm7.out.below hb8)
              clear ho8 hb8 hTC hz8
              go_wp2_with fail
              refine (kb.out).mono ?_
              rintro ee w9 ⟨aB, nB, cB, rfl, htm, hb9⟩
              have hfin : DivFin w4 (T.quo m f b s) (T.rem m f b s) (.slice aB nB cB) (.slice a7 (qn + 1) c7) w9 :=
                ⟨aB, a7, nB, cB, qn + 1, c7, rfl, by rw [HR.out, if_pos hNp]; exact htm, rfl, by rw [HQ.out, if_pos hNp]; exact Htm8.out.below hb9, Hb8.out.trans (hb9.mono hw8)⟩
              have Hfin := Lib.hid hfin
              clear htm hb9 hfin
              go_wp2_with fail
              go_meet
              exact Hfin.out
            · have hfin : DivFin w4 (T.quo m f b s) (T.rem m f b s) (.slice (some ⟨bl, ol, none⟩) n k) (.slice a9 qn c9) w5 :=
                ⟨_, a9, n, k, qn, c9, rfl, by rw [HR.out, if_neg hNp]; exact (HRw.out.below Hbw5.out).tmo, rfl, by rw [HQ.out, if_neg hNp, T.app_z]; exact Tm.of_own Ho5.out HTF5.out.tc Hqn.out.symm, Hbw5.out⟩
              have Hfin := Lib.hid hfin
              clear hfin
              go_wp2_with fail
              go_meet
              exact Hfin.out
          case rest =>
            obtain ⟨a7, a9', n7, k7, n9, c9', rfl, htR, rfl, htQ, hb⟩ := hcut
            go_step
            obtain ⟨wv, rfl⟩ : ∃ wv : World, wv = wc := ⟨_, rfl⟩
            obtain ⟨hvq, hvr⟩ := T.div_vld (m := m) (f := f) (b := b) HS.out hle1 HT.out
            have hlq := (T.vldB_true.1 hvq).1
            have hlr := (T.vldB_true.1 hvr).1
            obtain ⟨Q, hQ'⟩ : ∃ Q, Q = T.quo m f b s := ⟨_, rfl⟩
            obtain ⟨R, hR'⟩ : ∃ R, R = T.rem m f b s := ⟨_, rfl⟩
            rw [← hQ'] at htQ hlq
            rw [← hR'] at htR hlr
            have kq := Lib.hid (ordOfTerms_any a9' n9 c9' Q wv (by omega) htQ)
            have HQ' := Lib.hid hQ'
            have HR' := Lib.hid hR'
            have HtR := Lib.hid htR
            have Hb := Lib.hid (Hb4.out.trans (hb.mono Hb4.out.size))
            clear htR htQ hb hQ' hR' hvq hvr
            go_wp2_with fail
            refine (kq.out).mono ?_
            rintro ee wa ⟨aq, cq, rfl, hoq, hba⟩
            have kr := Lib.hid (ordOfTerms_at a7 n7 k7 R wa (by omega) (HtR.out.below hba))
            have Hoq := Lib.hid hoq
            have Hba := Lib.hid (Hb.out.trans (hba.mono Hb.out.size))
            clear hoq hba
            go_wp2_with fail
            refine (kr.out).mono ?_
            rintro ee wb ⟨ar, cr, rfl, hor, hbb⟩
            have hfin : DivPost w qr rr ro (.returned (.tuple #[.slice aq Q.enc.length cq, .slice ar R.enc.length cr, .bool true])) wb := by
              rw [Hqr.out, Hrr.out, Hro.out, Hgood.out.1, Hgood.out.2.1, Hgood.out.2.2, ← HQ'.out, ← HR'.out]
              exact ⟨aq, cq, ar, cr, rfl, Joins.ownsRow_le (ownsRow_below' Hoq.out hbb) Hb.out.size, Joins.ownsRow_le hor Hba.out.size, own_apart Hoq.out hor (Nat.le_refl _), Hba.out.trans (hbb.mono Hba.out.size)⟩
            have Hfin := Lib.hid hfin
            clear hor hbb hfin
            go_wp2_with fail
            go_ret3
            exact Hfin.out
    · have hbad := T.div_bad (xs := xs) (ys := ys) (.inr (.inl h2))
      rw [hbad.1, hbad.2.1, hbad.2.2]
      have H2v := Lib.hid h2
      clear hx hy h1 h2 hbad
      go_enter Try.func19, Try.ntmps19
      go_wp2_with fail
      refine (k1.out).mono ?_
      rintro ee w1 ⟨rfl, hb1⟩
      have Hb1 := Lib.hid hb1
      have k2 := Lib.hid (impl_valid a2 n2 c2 ys w1 (HY.out.below hb1) H2v.out)
      clear hb1
      go_wp2_with fail
      refine (k2.out).mono ?_
      rintro ee w2 ⟨rfl, hb2⟩
      have Hb2 := Lib.hid (Hb1.out.trans (hb2.mono Hb1.out.size))
      clear hb2
      go_wp2_with fail
      go_ret3
      exact DivPost.bad Hb2.out
  · have hbad := T.div_bad (xs := xs) (ys := ys) (.inl h1)
    have k1 := Lib.hid (impl_valid a1 n1 c1 xs w hx h1)
    rw [hbad.1, hbad.2.1, hbad.2.2]
    clear hx hy h1 hbad
    go_enter Try.func19, Try.ntmps19
    go_wp2_with fail
    refine (k1.out).mono ?_
    rintro ee w1 ⟨rfl, hb1⟩
    have Hb1 := Lib.hid hb1
    clear hb1
    go_wp2_with fail
    go_ret3
    exact DivPost.bad Hb1.out

end Go.Proofs.Ytaleaagnkfbhpaa

/- The model's sums. -/
import Derived.Test.YthalogciiochfaaAdd
import Derived.Test.YthalogciiochfaaOld
import Derived.Test.YthalogciiochfaaMakeS
import Derived.Test.YthalogciiochfaaRawKit
import Derived.Deep.LoopGhost
import Derived.Deep.DeepCutAuto
import Derived.Deep.CutBlock
import Derived.StillTailTactics
namespace Go.Proofs.Ythalogciiochfaa
set_option maxRecDepth 100000
open Go.RowKit

def IntPost (w : World) (r : List Int) (e : Ending) (w' : World) : Prop :=
  ∃ a c, e = .returned (.slice a r.length c) ∧ w'.ownsRow w.heap.size 3 1 (.slice a r.length c) r.length (ints r) ∧ Below w.heap.size w w'

/-- What lies in rows of numbers and of exponents. -/
def Two (w0 w : World) (v1 v2 : Value) (t : T) (es : List Value) : Prop :=
  w.ownsRow w0.heap.size 3 1 v1 t.cnt (ints t.times) ∧ w.ownsRow w0.heap.size 23 1 v2 t.cnt es ∧ EC w0 t es

def SumLoop (w : World) (s e : T) (gk : Nat) (v9 v10 v11 : Value) (wr : World) : Prop :=
  ∃ (k : Nat) (d u : T) (es : List Value) (a9 a10 : Option Addr) (c9 c10 : Nat), v11 = .int .i64 k ∧ gk + k = s.cnt ∧ d.app u = s ∧ d.cnt = k ∧ T.takeGe e s = d.app (T.takeGe e u) ∧
    v9 = .slice a9 k c9 ∧ v10 = .slice a10 k c10 ∧ Two w wr v9 v10 d es ∧ Below w.heap.size w wr

def SumAt (w : World) (s e : T) (v9 v10 : Value) (wr : World) : Prop :=
  ∃ (d : T) (es : List Value) (a9 a10 : Option Addr) (c9 c10 : Nat), T.takeGe e s = d ∧ v9 = .slice a9 d.cnt c9 ∧ v10 = .slice a10 d.cnt c10 ∧ d.cnt ≤ s.cnt ∧ Two w wr v9 v10 d es ∧ Below w.heap.size w wr

def SumEnd (w : World) (s : T) (m : Int) (e r : T) (v9 v10 v13 : Value) (wr : World) : Prop :=
  ∃ (d : T) (es : List Value) (a9 a10 : Option Addr) (c9 c10 fr : Nat), v13 = .int .i64 fr ∧ v9 = .slice a9 d.cnt c9 ∧ v10 = .slice a10 d.cnt c10 ∧ d.cnt ≤ s.cnt ∧ Two w wr v9 v10 d es ∧ Below w.heap.size w wr ∧
    ((fr = 0 ∧ T.add s (.c m e r) = d.app (.c m e r)) ∨ (fr = 1 ∧ T.add s (.c m e r) = d.app r))

def SumTest (wz : World) (s : T) (m : Int) (e r d : T) (v : Value) (wx : World) : Prop :=
  Below wz.heap.size wz wx ∧ ((v = .bool false ∧ T.add s (.c m e r) = d.app (.c m e r)) ∨ (v = .bool true ∧ ∃ (d' : T) (n : Int), d = d'.app (.c n e .z) ∧ 1 ≤ n ∧ n ≤ 9999 ∧ T.add s (.c m e r) = d'.app (.c (m + n) e r)))

theorem ec_join {w : World} {d u : T} {es fs : List Value} (h : EC w d es) (k : EC w u fs) : EC w (d.app u) (es ++ fs) := by
  induction d generalizing es with
  | z => simp only [EC] at h; subst h; exact k
  | c n e r _ ih =>
    obtain ⟨b, off, cap, es', rfl, h1, h2, h3, h4⟩ := h
    exact ⟨b, off, cap, _, rfl, h1, h2, h3, ih h4⟩
theorem ec_one {w : World} {t : T} {es : List Value} (h : EC w t es) : ∀ u ∈ es, u.oneCell' = true := by
  induction t generalizing es with
  | z => simp only [EC] at h; subst h; intro u hu; cases hu
  | c n e r _ ih =>
    obtain ⟨b, off, cap, es', rfl, _, _, _, h⟩ := h
    intro u hu
    rcases List.mem_cons.1 hu with rfl | hu
    · rfl
    · exact ih h u hu
theorem own_cap' {w : World} {B e n m c : Nat} {a : Option Addr} {xs : List Value} (h : w.ownsRow B e 1 (.slice a n c) n xs) (hm : m = n) : m ≤ c := by
  rcases h.2 with ⟨h1, _⟩ | ⟨g, cap, cur, h0, h1, h2, h3, h4, _⟩
  · simp only [Value.slice.injEq] at h1; omega
  · simp only [Value.slice.injEq] at h0; omega
theorem ints_len' (xs : List Int) : (xs.map (Value.int .i64)).length = xs.length := by simp
theorem row_drop {w wx : World} {g n : Nat} {xs : List Value} (h : ∀ j, j < n → w.cell? ⟨g, j, none⟩ = xs[j]?) (hl : xs.length = n) (hg : g < w.heap.size) (hb : Below w.heap.size w wx) (k : Nat) :
    ∀ j v, (xs.drop k)[j]? = some v → wx.cell? ((⟨g, k, none⟩ : Addr).add j) = some v := by
  intro j v hj
  have hjl : j < (xs.drop k).length := (List.getElem?_eq_some_iff.1 hj).1
  rw [List.length_drop] at hjl
  rw [Addr.add_lit, hb.cell (p := ⟨g, k + j, none⟩) hg, h (k + j) (by omega)]
  rw [List.getElem?_drop] at hj
  exact hj
theorem sum_sl {w : World} {B n c : Nat} {a : Option Addr} {t : T} {xs : List Value} (h : w.ownsRow B 3 1 (.slice a n c) n xs) (hx : xs = ints t.times) : Sl w a n c t.times := by
  subst hx; exact Sl.of_own h
theorem sum_ex {w : World} {B n c : Nat} {a : Option Addr} {t : T} {es : List Value} (h : w.ownsRow B 23 1 (.slice a n c) n es) (hE : EC w t es) (hn : n = t.cnt) : Ex w a n t := Ex.of_own h hE hn

theorem ints_snoc (d f : T) (n : Int) : ints d.times ++ [.int .i64 n] = ints (d.app (.c n f .z)).times := by
  rw [T.times_app]; simp [ints, T.times]

set_option maxRecDepth 100000 in
set_option maxHeartbeats 4000000 in
theorem l2Add_any (b1 o1 n1 c1 b2 o2 n2 c2 : Nat) (s t : T) (w : World) (hs : s.Nf) (ht : t.Nf) (hn1 : n1 = s.enc.length) (hn2 : n2 = t.enc.length) (hl1 : n1 ≤ 1000) (hl2 : n2 ≤ 1000)
    (hc1 : n1 ≤ c1) (hm1 : c1 ≤ maxLen) (hc2 : n2 ≤ c2) (hm2 : c2 ≤ maxLen) (ha1 : At w b1 o1 s.enc) (ha2 : At w b2 o2 t.enc) :
    Calls Try.prog 61 #[.slice (some ⟨b1, o1, none⟩) n1 c1, .slice (some ⟨b2, o2, none⟩) n2 c2] w (IntPost w (T.add s t).enc) := by
  obtain ⟨i0, hi, hz0, hz1, hz2⟩ := info_parts info_int
  obtain ⟨j0, hj, hy0, hy1, hy2⟩ := info_parts info_ints
  have HA1 := Lib.hid ha1
  have HA2 := Lib.hid ha2
  have HS := Lib.hid hs
  have HT := Lib.hid ht
  have HN1 := Lib.hid hn1
  have HN2 := Lib.hid hn2
  have k1 := Lib.hid (l1Terms_old b2 o2 n2 c2 t.enc t w hn2.symm (by omega) hc2 hm2 ha2 rfl)
  have hcs := T.cnt_le s
  have hct := T.cnt_le t
  have hes := T.enc_len s
  have het := T.enc_len t
  have hsc : s.cnt ≤ 1000 := by omega
  have htc : t.cnt ≤ 1000 := by omega
  clear ha1 ha2 hs ht hn1 hn2 hcs hct hes het
  go_enter Try.func61, Try.ntmps61
  go_wp2_with fail
  refine (k1.out).mono ?_
  rintro ee w1 ⟨v5, v6, es5, rfl, ho5, ho6, hE5, _, hb1⟩
  obtain ⟨a5, c5, rfl, hv5⟩ := own_form ho5
  obtain ⟨a6, c6, rfl, hv6⟩ := own_form ho6
  have Ho5 := Lib.hid ho5
  have Ho6 := Lib.hid ho6
  have HE5 := Lib.hid hE5
  have Hb1 := Lib.hid hb1
  have Hv5 := Lib.hid hv5
  have Hv6 := Lib.hid hv6
  clear ho5 ho6 hE5 hb1 hv5 hv6
  cases t with
  | z =>
    have hz : T.z.cnt = 0 := rfl
    have HX := Lib.hid (show (ints s.enc).length = n1 * 1 by rw [ints_len]; have := HN1.out; omega)
    have HNw := Lib.hid (At.news ((HA1.out.below Hb1.out (HA1.out.lt (T.enc_ne s))).alloc (T.enc_ne s) (.cells #[] 3)))
    rw [hz]
    go_wp2_with (first
      | (at_builtin; refine wpList_append_own _ rfl (.tmp 22) (.tmp 23) 23 rfl w1.heap.size 3 i0 (.int .i64 0) 1 8 Try.underlying23 hi hz0 hz1 hz2 rfl (by decide) _ 0 [] rfl (World.ownsRow_lit w1 #[] 0 (Nat.le_refl _) (by simp [maxLen]) rfl) ⟨b1, o1, none⟩ n1 c1 (ints s.enc) rfl HX.out HNw.out (ints_one _) (by unfold maxLen; omega) (by omega) (by simp) ?_; intro v1 w2 ho2 hg2 _))
    obtain ⟨g2, cc2, hv2⟩ := Joins.ownsRow_form ho2 (by have := HN1.out; have := T.enc_len s; omega)
    subst hv2
    have hfin : IntPost w s.enc (.returned (.slice (some ⟨g2, 0, none⟩) (0 + n1) cc2)) w2 := by
      have e1 : 0 + n1 = s.enc.length := by have := HN1.out; omega
      have h9 := ho2
      rw [e1] at h9 ⊢
      exact ⟨_, cc2, rfl, Joins.ownsRow_le (by simpa using h9) Hb1.out.size, Hb1.out.trans ((((Below.refl _ _).alloc (Nat.le_refl _) _).grown hg2 (by simp) (fun r e => by cases e; exact Nat.le_refl _)).mono Hb1.out.size)⟩
    have Hfin := Lib.hid hfin
    clear hfin ho2 hg2
    go_wp2_with fail
    go_ret
    exact Hfin.out
  | c m e r =>
    have k2 := Lib.hid (l1Terms_old b1 o1 n1 c1 s.enc s w1 HN1.out.symm (by omega) hc1 hm1 (HA1.out.below Hb1.out (HA1.out.lt (T.enc_ne s))) rfl)
    have hpos : 0 < (T.c m e r).cnt := by simp [T.cnt]
    have Htm := Lib.hid (show 1 ≤ m ∧ m ≤ 9999 from ⟨HT.out.1, HT.out.2.1⟩)
    obtain ⟨g5, rfl, hg5, hcc5⟩ := Hv5.out hpos
    obtain ⟨g6, rfl, hg6, hcc6⟩ := Hv6.out hpos
    have hE5 := HE5.out
    obtain ⟨be, oe, ce, es5', hes5, hate, hce, hcm, hE5'⟩ := hE5
    have y1 : w1.cell? ⟨g6, 0, none⟩ = some (.slice (some ⟨be, oe, none⟩) e.enc.length ce) := by rw [hcc6 0 hpos, hes5]; rfl
    have y0 : w1.cell? ⟨g5, 0, none⟩ = some (.int .i64 m) := by rw [hcc5 0 hpos]; rfl
    obtain ⟨nt, hnt⟩ : ∃ nt, nt = (T.c m e r).cnt := ⟨_, rfl⟩
    have hntp : 0 < nt := by omega
    have hntb : nt ≤ 1000 := by omega
    have hnb : (((nt : Nat) : Int) == 0) = false := by simp; omega
    rw [← hnt]
    have Hnt := Lib.hid hnt
    have Hes5 := Lib.hid hes5
    have HE5' := Lib.hid hE5'
    have Hate := Lib.hid hate
    have Hy0 := Lib.hid y0
    have Hy1 := Lib.hid y1
    have Hcc5 := Lib.hid hcc5
    have Hcc6 := Lib.hid hcc6
    have hel5 : e.enc.length ≤ 5000 := by
      have h1 := T.enc_len (T.c m e r)
      rw [T.body_c] at h1
      have := HN2.out
      simp at h1
      omega
    clear hnt hes5 hE5' hate y0 y1 hcc5 hcc6 hpos htc
    go_wp2_with fail
    refine (k2.out).mono ?_
    rintro ee w2 ⟨v7, v8, es7, rfl, ho7, ho8, hE7, _, hb2⟩
    obtain ⟨a7, c7, rfl, hv7⟩ := own_form ho7
    obtain ⟨a8, c8, rfl, hv8⟩ := own_form ho8
    have hE7' := hE7.below hb2
    have HE7 := Lib.hid hE7'
    have Hb2 := Lib.hid hb2
    have Hv7 := Lib.hid hv7
    have Hv8 := Lib.hid hv8
    have Hb12 := Lib.hid (Hb1.out.trans (hb2.mono Hb1.out.size))
    have hg52 : g5 < w2.heap.size := Nat.lt_of_lt_of_le hg5 hb2.size
    have hg62 : g6 < w2.heap.size := Nat.lt_of_lt_of_le hg6 hb2.size
    have Hate2 := Lib.hid (Hate.out.below Hb12.out (Hate.out.lt (T.enc_ne e)))
    have Hy1' := Lib.hid ((hb2.cell (p := ⟨g6, 0, none⟩) hg6).trans Hy1.out)
    have Hy0' := Lib.hid ((hb2.cell (p := ⟨g5, 0, none⟩) hg5).trans Hy0.out)
    have hfl : ∀ (d : T) (n : Int) (f r : T), d.app (.c n f r) = s → f.enc.length ≤ 5000 := by
      intro d n f r h
      have h1 := congrArg (fun x => T.body x) h
      have h2 := congrArg List.length h1
      simp only [T.app_body, T.body_c, List.length_append, List.length_cons] at h2
      have := T.enc_len s
      have := HN1.out
      omega
    have HFL := Lib.hid hfl
    have hst0 : SumLoop w2 s e s.cnt (.slice (some ⟨w2.heap.size, 0, none⟩) 0 0) (.slice (some ⟨w2.heap.size + 1, 0, none⟩) 0 0) (.int .i64 (0 : Nat)) ((w2.alloc (.cells #[] 3)).alloc (.cells #[] 23)) := by
      have hL : (w2.alloc (.cells #[] 3)).ownsRow w2.heap.size 3 1 (.slice (some ⟨w2.heap.size, 0, none⟩) 0 0) 0 (ints []) := World.ownsRow_lit w2 #[] 0 (Nat.le_refl _) (by simp [maxLen]) rfl
      have hL2 := World.ownsRow_lit (base := w2.heap.size) (e := 23) (size := 1) (w2.alloc (.cells #[] 3)) #[] 0 (by simp) (by simp [maxLen]) rfl
      rw [World.size_alloc] at hL2
      exact ⟨0, .z, s, [], _, _, 0, 0, rfl, by omega, rfl, rfl, rfl, rfl, rfl, ⟨hL.alloc _, hL2, rfl⟩, ((Below.refl _ _).alloc (Nat.le_refl _) _).alloc (by simp) _⟩
    have Hst0 := Lib.hid hst0
    clear ho7 ho8 hE7 hE7' hb2 hv7 hv8 hfl hst0
    go_upto_block 0 with fail
    go_cut [9, 10] (fun v9 v10 wx => SumAt w2 s e v9 v10 wx)
    case first =>
      go_wp2_with fail
      go_loopg [9, 10, 11] (s.cnt) (fun gk v9 v10 v11 wr => SumLoop w2 s e gk v9 v10 v11 wr)
      case atStart => exact Hst0.out
      case round =>
        obtain ⟨k, d, u, es, a9, a10, c9, c10, rfl, hgk, hdu, hdk, hge, rfl, rfl, ⟨ho9, ho10, hEd⟩, hbw⟩ := hrel
        have Hgk := Lib.hid hgk
        have HU := Lib.hid (show d.app u = s ∧ d.cnt = k ∧ T.takeGe e s = d.app (T.takeGe e u) from ⟨hdu, hdk, hge⟩)
        have hct : s.cnt = k + u.cnt := by rw [← hdu, T.app_cnt, hdk]
        have Hct := Lib.hid hct
        have hkn : k ≤ s.cnt := by omega
        have Hbw := Lib.hid hbw
        have Ho9 := Lib.hid ho9
        have Ho10 := Lib.hid ho10
        have HEd := Lib.hid hEd
        have hws := hbw.size
        have Hdk := Lib.hid hdk
        clear hgk hdu hdk hge hct hbw ho9 ho10 hEd
        by_cases hu : u = .z
        · have hkz : s.cnt ≤ k := by have h1 := Hct.out; rw [hu] at h1; simp [T.cnt] at h1; omega
          have hkd : decide ((k : Int) < s.cnt) = false := by simp; omega
          have hkd2 : decide (k < s.cnt) = false := by simp; omega
          have hfin : ∀ wx, Below wr.heap.size wr wx → SumAt w2 s e (.slice a9 k c9) (.slice a10 k c10) wx := fun wx hb => by
            refine ⟨d, es, a9, a10, c9, c10, by rw [HU.out.2.2, hu, T.takeGe, T.app_z], by rw [Hdk.out], by rw [Hdk.out], by have := Hdk.out; omega, ⟨ownsRow_below' ?_ hb, ownsRow_below' ?_ hb, HEd.out⟩, Hbw.out.trans (hb.mono hws)⟩
            · exact Ho9.out
            · exact Ho10.out
          have Hfin := Lib.hid hfin
          clear hu hfin
          go_wp2_with fail
          go_quiet (fail)
          go_wp2_with fail
          go_meet
          exact Hfin.out _ (Joins.below_draws _ _ _)
        · obtain ⟨n, f, q, hu2⟩ : ∃ n f q, u = .c n f q := by
            cases u with
            | z => exact absurd rfl hu
            | c n f q => exact ⟨n, f, q, rfl⟩
          have hlt : k < s.cnt := by have h1 := Hct.out; rw [hu2] at h1; simp [T.cnt] at h1; omega
          obtain ⟨g7, rfl, hg7, hcc7⟩ := Hv7.out (by omega)
          obtain ⟨g8, rfl, hg8, hcc8⟩ := Hv8.out (by omega)
          have hd2 : d.app (.c n f q) = s := by rw [← hu2]; exact HU.out.1
          obtain ⟨bf, of, cf, p2, p3, p4, p5⟩ := HE7.out.pick hd2 HU.out.2.1
          have x2 : wr.cell? ⟨g8, k, none⟩ = some (.slice (some ⟨bf, of, none⟩) f.enc.length cf) := (Hbw.out.cell (p := ⟨g8, k, none⟩) hg8).trans (by rw [hcc8 _ (by omega)]; exact p2)
          have x1 : wr.cell? ⟨g7, k, none⟩ = some (.int .i64 n) := (Hbw.out.cell (p := ⟨g7, k, none⟩) hg7).trans (by rw [hcc7 _ (by omega)]; show (ints s.times)[k]? = _; rw [ints, List.getElem?_map, T.times_pick hd2 HU.out.2.1]; rfl)
          have z1 : wr.cell? ⟨g6, 0, none⟩ = some (.slice (some ⟨be, oe, none⟩) e.enc.length ce) := (Hbw.out.cell (p := ⟨g6, 0, none⟩) hg62).trans Hy1'.out
          have hff := HFL.out d n f q hd2
          have kc := Lib.hid (l1Compare_any (f.body.length + 1) bf of cf be oe ce f.enc.length e.enc.length f e wr.drew (by omega) rfl rfl (by omega) (by omega) p4 p5 hce hcm (p3.below Hbw.out.drew (p3.lt (T.enc_ne f))) (Hate2.out.below Hbw.out.drew (Hate2.out.lt (T.enc_ne e))))
          have Hu2 := Lib.hid hu2
          obtain ⟨cv, hcv⟩ : ∃ cv, cv = f.cmp e := ⟨_, rfl⟩
          rw [← hcv] at kc
          have Hcv := Lib.hid hcv
          have Hp3 := Lib.hid p3
          clear hu hu2 hd2 p2 p3 hcv hcc7 hcc8
          go_wp2_with fail
          go_still_tail 12, (by kernel_rfl)
          change wpList _ _ _ _ _ wr.drew
          go_wp2_with fail
          refine (kc.out).mono ?_
          rintro ee w3 ⟨rfl, hb3⟩
          have Hb3 := Lib.hid (((Below.refl wr.heap.size wr).drew).trans hb3)
          clear hb3
          by_cases hc1 : 0 ≤ cv
          · have hc1' : ¬ f.cmp e = -1 := by have h1 := Hcv.out; omega
            have hst := T.ge_step (e := e) n q hc1'
            have Hst := Lib.hid hst
            have hg7r : g7 < wr.heap.size := by omega
            have hg8r : g8 < wr.heap.size := by omega
            have x1' := (Hb3.out.cell (p := ⟨g7, k, none⟩) hg7r).trans x1
            have x2' := (Hb3.out.cell (p := ⟨g8, k, none⟩) hg8r).trans x2
            have Ho9a := Lib.hid (ownsRow_below' Ho9.out Hb3.out)
            have Ho10a := Lib.hid (ownsRow_below' Ho10.out Hb3.out)
            have hw3 : w2.heap.size ≤ w3.heap.size := Nat.le_trans hws Hb3.out.size
            have Hbw3 := Lib.hid (Hbw.out.trans (Hb3.out.mono hws))
            have Ho9k := Lib.hid (show w3.ownsRow w2.heap.size 3 1 (.slice a9 k c9) k (ints d.times) by have h9 := Ho9a.out; rw [Hdk.out] at h9; exact h9)
            have Ho10k := Lib.hid (show w3.ownsRow w2.heap.size 23 1 (.slice a10 k c10) k es by have h9 := Ho10a.out; rw [Hdk.out] at h9; exact h9)
            clear hc1' hst x1 x2 z1
            go_wp2_with (first
              | (at_builtin; refine wpList_append_own _ rfl (.tmp 49) (.tmp 54) 23 rfl w2.heap.size 3 i0 (.int .i64 0) 1 8 Try.underlying23 hi hz0 hz1 hz2 rfl (by decide) _ k (ints d.times) rfl (Ho9k.out.alloc _) ⟨w3.heap.size, 0, none⟩ 1 1 [.int .i64 n] rfl rfl (cell_one_new _ _ _) (ints_oneCell _ [n]) (by unfold maxLen; omega) (by omega) (by simp; omega) ?_; intro v1 w4 ho1 hg1 _; have hs4 : w3.heap.size + 1 ≤ w4.heap.size := le_of_alloc hg1; have Hk10 := Lib.hid (kept_of Ho10k.out hg1 (own_ne Ho10k.out Ho9k.out (by decide))); have x3 : w4.cell? ⟨g8, k, none⟩ = some (.slice (some ⟨bf, of, none⟩) f.enc.length cf) := (hg1.cell (a := ⟨g8, k, none⟩) ((World.cell?_alloc_past _ _ _ (show g8 < w3.heap.size by omega)).trans x2') (fun h => by have h9 : w2.heap.size ≤ g8 := (Ho9k.out.lt _ h.symm).1; omega)))
              | (at_builtin; refine wpList_append_own _ rfl (.tmp 56) (.tmp 61) 71 rfl w2.heap.size 23 j0 (.slice none 0 0) 1 24 Try.underlying71 hj hy0 hy1 hy2 rfl (by decide) _ k es rfl (Hk10.out.alloc _) ⟨w4.heap.size, 0, none⟩ 1 1 [.slice (some ⟨bf, of, none⟩) f.enc.length cf] rfl rfl (cell_one_new _ _ _) (slice_oneCell _ _ _) (by unfold maxLen; omega) (by omega) (by simp; omega) ?_; intro v2 w5 ho2 hg2 _))
            have ho1' := kept_of ho1 hg2 (own_ne ho1 Hk10.out (by decide))
            obtain ⟨a1', c1', rfl, _⟩ := own_form ho1'
            obtain ⟨a2', c2', rfl, _⟩ := own_form ho2
            have hb4 := (Hbw3.out.alloc hw3 _).grown hg1 (by simp; omega) (fun r h => (Ho9k.out.lt r h).1)
            have hb5 := (hb4.alloc (by omega) _).grown hg2 (by simp; omega) (fun r h => (Hk10.out.lt r h).1)
            have hfin : SumLoop w2 s e (gk - 1) (.slice a1' (k + 1) c1') (.slice a2' (k + 1) c2') (.int .i64 ((k + 1 : Nat) : Int)) w5 := by
              have hdc : (d.app (.c n f .z)).cnt = k + 1 := by rw [T.app_cnt, Hdk.out]; rfl
              refine ⟨k + 1, d.app (.c n f .z), q, es ++ [.slice (some ⟨bf, of, none⟩) f.enc.length cf], a1', a2', c1', c2', rfl, by have := Hgk.out; omega, by rw [T.app_assoc]; rw [← HU.out.1, Hu2.out]; rfl, hdc, by rw [HU.out.2.2, Hu2.out, Hst.out, T.app_assoc]; rfl, rfl, rfl, ⟨?_, ?_, ?_⟩, hb5⟩
              · rw [hdc, ← ints_snoc]; exact ho1'
              · rw [hdc]; exact ho2
              · exact HEd.out.snoc Hp3.out p4 p5
            have Hfin := Lib.hid hfin
            clear ho1 hg1 ho2 hg2 ho1' hb4 hb5 hfin
            go_wp2_with fail
            go_roundg (gk - 1)
            case measure => have := Hgk.out; omega
            case rel => exact Hfin.out
          · have hc1' : f.cmp e = -1 := by have h1 := Hcv.out; rcases T.cmp_vals f e with h | h | h <;> omega
            have hst := T.ge_stop (e := e) n q hc1'
            have hfin : SumAt w2 s e (.slice a9 k c9) (.slice a10 k c10) w3 := by
              refine ⟨d, es, a9, a10, c9, c10, by rw [HU.out.2.2, Hu2.out, hst, T.app_z], by rw [Hdk.out], by rw [Hdk.out], by have := Hdk.out; omega, ⟨ownsRow_below' ?_ Hb3.out, ownsRow_below' ?_ Hb3.out, HEd.out⟩, Hbw.out.trans (Hb3.out.mono hws)⟩
              · exact Ho9.out
              · exact Ho10.out
            have Hfin := Lib.hid hfin
            clear hc1' hst hfin x1 x2 z1
            go_wp2_with fail
            go_meet
            exact Hfin.out
    case rest =>
      obtain ⟨d, es, a9, a10, c9, c10, hge, rfl, rfl, hdn, ⟨ho9, ho10, hEd⟩, hbw⟩ := hcut
      go_step
      obtain ⟨wz, rfl⟩ : ∃ wz : World, wz = wc := ⟨_, rfl⟩
      have Ho9 := Lib.hid ho9
      have Ho10 := Lib.hid ho10
      have HEd := Lib.hid hEd
      have Hbw := Lib.hid hbw
      have hws := hbw.size
      have Hge := Lib.hid hge
      have z1 : wz.cell? ⟨g6, 0, none⟩ = some (.slice (some ⟨be, oe, none⟩) e.enc.length ce) := (hbw.cell (p := ⟨g6, 0, none⟩) hg62).trans Hy1'.out
      have z0 : wz.cell? ⟨g5, 0, none⟩ = some (.int .i64 m) := (hbw.cell (p := ⟨g5, 0, none⟩) hg52).trans Hy0'.out
      clear ho9 ho10 hEd hbw hge
      obtain ⟨dn, hdn2⟩ : ∃ dn, dn = d.cnt := ⟨_, rfl⟩
      rw [← hdn2] at hdn ⊢
      have Hdn2 := Lib.hid hdn2
      clear hdn2
      have q1 : IntKind.i64.wrap ((dn : Int) - 1) = (dn : Int) - 1 := IntWalk.i64_in _ (by omega)
      go_upto_region 14 with fail
      go_cut [12, 78] (fun v12 v78 wx => v12 = .int .i64 ((dn : Int) - 1) ∧ SumTest wz s m e r d v78 wx)
      case first =>
        have hadd : T.add s (.c m e r) = (T.takeGt e s).app (T.addTail m e r (T.dropGt e s)) := rfl
        by_cases hd0 : dn = 0
        · have hdz : d = .z := T.cnt_zero (by have := Hdn2.out; omega)
          have hfin : ∀ wx, Below wz.heap.size wz wx → SumTest wz s m e r d (.bool false) wx := fun wx hb => by
            refine ⟨hb, .inl ⟨rfl, ?_⟩⟩
            rcases T.ge_split e HS.out with ⟨i1, i2⟩ | ⟨n, i1, _⟩
            · rw [hadd, i2, ← i1, Hge.out]
            · have h1 := Hge.out
              rw [i1, hdz] at h1
              have h2 := congrArg T.cnt h1
              rw [T.app_cnt] at h2
              simp [T.cnt] at h2
          have Hfin := Lib.hid hfin
          have hq0 : decide ((0 : Int) ≤ (dn : Int) - 1) = false := by simp; omega
          have hq1 : decide ((1 : Int) ≤ (dn : Int)) = false := by simp; omega
          have hq2 : decide (1 ≤ dn) = false := by simp; omega
          clear hd0 hdz hfin hadd
          go_wp2_with fail
          go_quiet (fail)
          go_wp2_with fail
          go_meet
          exact ⟨rfl, Hfin.out _ (Joins.below_draws _ _ _)⟩
        · obtain ⟨K, hK⟩ : ∃ K, dn = K + 1 := ⟨dn - 1, by omega⟩
          have eK : (dn : Int) - 1 = (K : Int) := by clear q1; omega
          rw [eK]
          have EK := Lib.hid eK
          clear q1 eK
          obtain ⟨d', n', f, hd2, hd3⟩ := T.last_of d (by have := Hdn2.out; omega)
          have hcase : (f.cmp e = 1 ∧ T.add s (.c m e r) = d.app (.c m e r)) ∨ (f = e ∧ 1 ≤ n' ∧ n' ≤ 9999 ∧ T.add s (.c m e r) = d'.app (.c (m + n') e r)) := by
            rcases T.ge_split e HS.out with ⟨i1, i2⟩ | ⟨n, i1, i3, i4, i2⟩
            · refine .inl ⟨T.gt_last e s d' n' f .z ?_, ?_⟩
              · rw [← i1, Hge.out, hd2]
              · rw [hadd, i2, ← i1, Hge.out]
            · have h1 := Hge.out
              rw [i1, hd2] at h1
              obtain ⟨j1, j2, j3⟩ := T.snoc_inj h1
              refine .inr ⟨j3.symm, by omega, by omega, ?_⟩
              rw [hadd, i2, j1, j2]
          have hdk : d'.cnt = K := by have := Hdn2.out; omega
          obtain ⟨bf, of, cf, p2, p3, p4, p5⟩ := HEd.out.pick hd2.symm hdk
          obtain ⟨_, _, hv10, ha10⟩ := own_form Ho10.out
          simp only [Value.slice.injEq] at hv10
          obtain ⟨rfl, _, rfl⟩ := hv10
          obtain ⟨g10, rfl, hg10, hcc10⟩ := ha10 (by have := Hdn2.out; omega)
          have x2 : wz.cell? ⟨g10, K, none⟩ = some (.slice (some ⟨bf, of, none⟩) f.enc.length cf) := by rw [hcc10 _ (by have := Hdn2.out; omega)]; exact p2
          have hff : f.enc.length ≤ 5000 := by
            obtain ⟨u, hu⟩ : ∃ u, d.app u = s := by
              rcases T.ge_split e HS.out with ⟨i1, _⟩ | ⟨n, i1, _⟩
              · exact ⟨T.dropGt e s, by rw [← Hge.out, i1, T.take_drop]⟩
              · exact T.ge_front e s |>.imp (fun u hu => by rw [← Hge.out]; exact hu)
            exact HFL.out d' n' f u (by rw [← hu, hd2, T.app_assoc]; rfl)
          have kc := Lib.hid (l1Compare_any (f.body.length + 1) bf of cf be oe ce f.enc.length e.enc.length f e wz.drew (by omega) rfl rfl (by omega) (by omega) p4 p5 hce hcm (p3.below Hbw.out.drew (p3.lt (T.enc_ne f))) (Hate2.out.below Hbw.out.drew (Hate2.out.lt (T.enc_ne e))))
          obtain ⟨cv, hcv⟩ : ∃ cv, cv = f.cmp e := ⟨_, rfl⟩
          rw [← hcv] at kc hcase
          have hfin : ∀ wx, Below wz.heap.size wz wx → (cv = 1 → SumTest wz s m e r d (.bool false) wx) ∧ (cv = 0 → SumTest wz s m e r d (.bool true) wx) ∧ (cv = 1 ∨ cv = 0) := fun wx hb => by
            refine ⟨fun h => ⟨hb, .inl ⟨rfl, ?_⟩⟩, fun h => ⟨hb, .inr ⟨rfl, d', n', ?_⟩⟩, ?_⟩
            · rcases hcase with ⟨_, h1⟩ | ⟨h1, _⟩
              · exact h1
              · rw [h1, T.cmp_refl] at hcv; omega
            · rcases hcase with ⟨h1, _⟩ | ⟨h1, h2⟩
              · omega
              · exact ⟨by rw [hd2, h1], h2⟩
            · rcases hcase with ⟨h1, _⟩ | ⟨h1, _⟩
              · exact .inl h1
              · rw [h1, T.cmp_refl] at hcv; exact .inr hcv
          have Hfin := Lib.hid hfin
          have hq3 : (0 : Int) ≤ (K : Int) := by omega
          have hq4 : (K : Int) < (dn : Int) := by omega
          have hq6 : K < dn := by omega
          clear hK hd0 hd2 hd3 hcase hdk p2 p3 p4 p5 hcc10 hcv hfin hadd
          go_wp2_with fail
          go_still_tail 10, (by kernel_rfl)
          change wpList _ _ _ _ _ wz.drew
          go_wp2_with fail
          refine (kc.out).mono ?_
          rintro ee w3 ⟨rfl, hb3⟩
          have Hb3 := Lib.hid (((Below.refl wz.heap.size wz).drew).trans hb3)
          clear hb3 x2
          rcases (Hfin.out _ Hb3.out).2.2 with hc1 | hc1
          · subst hc1
            go_wp2_with fail
            go_meet
            exact ⟨congrArg (Value.int .i64) EK.out.symm, (Hfin.out _ Hb3.out).1 trivial⟩
          · subst hc1
            go_wp2_with fail
            go_meet
            exact ⟨congrArg (Value.int .i64) EK.out.symm, (Hfin.out _ Hb3.out).2.1 trivial⟩
      case rest =>
        obtain ⟨rfl, hbt, hcase⟩ := hcut
        go_step
        obtain ⟨wt, rfl⟩ : ∃ wt : World, wt = wc := ⟨_, rfl⟩
        have Hbt := Lib.hid hbt
        have hts := hbt.size
        have Hbwt := Lib.hid (Hbw.out.trans (hbt.mono hws))
        have Ho9t := Lib.hid (ownsRow_below' Ho9.out hbt)
        have Ho10t := Lib.hid (ownsRow_below' Ho10.out hbt)
        have hg52z : g5 < wz.heap.size := by omega
        have zt0 : wt.cell? ⟨g5, 0, none⟩ = some (.int .i64 m) := (hbt.cell (p := ⟨g5, 0, none⟩) hg52z).trans z0
        clear hbt z1 z0
        go_upto_if 78 with fail
        go_cut [9, 10, 12, 13] (fun v9 v10 _ v13 wx => SumEnd w2 s m e r v9 v10 v13 wx)
        case first =>
          rcases hcase with ⟨rfl, hadd⟩ | ⟨rfl, d', n, hd, hn1', hn2', hadd⟩
          · have hfin : SumEnd w2 s m e r (.slice a9 dn c9) (.slice a10 dn c10) (.int .i64 (0 : Nat)) wt :=
              ⟨d, es, a9, a10, c9, c10, 0, rfl, by rw [Hdn2.out], by rw [Hdn2.out], by have := Hdn2.out; omega, ⟨by rw [Hdn2.out]; exact Ho9t.out, by rw [Hdn2.out]; exact Ho10t.out, HEd.out⟩, Hbwt.out, .inl ⟨rfl, hadd⟩⟩
            have Hfin := Lib.hid hfin
            clear hadd hfin
            go_wp2_with fail
            go_meet
            exact Hfin.out
          · have hd3 : d'.cnt + 1 = dn := by rw [Hdn2.out, hd, T.app_cnt]; rfl
            obtain ⟨K, hK⟩ : ∃ K, dn = K + 1 := ⟨dn - 1, by omega⟩
            have hdK : d'.cnt = K := by omega
            have eK : (dn : Int) - 1 = (K : Int) := by clear q1; omega
            rw [eK]
            have EK := Lib.hid eK
            obtain ⟨_, _, hv9, ha9⟩ := own_form Ho9t.out
            simp only [Value.slice.injEq] at hv9
            obtain ⟨rfl, _, rfl⟩ := hv9
            obtain ⟨g9, rfl, hg9, hcc9⟩ := ha9 (by have := Hdn2.out; omega)
            have x1 : wt.cell? ⟨g9, K, none⟩ = some (.int .i64 n) := by
              rw [hcc9 _ (by have := Hdn2.out; omega)]
              show (ints d.times)[K]? = _
              rw [ints, List.getElem?_map, T.times_pick hd.symm hdK]; rfl
            have f1 := Ho9t.out.frozenAt K
            have hm := Htm.out
            have hm1 := hm.1
            have hm2 := hm.2
            have q2 : IntKind.i64.wrap (n + m) = n + m := IntWalk.i64_in _ (by omega)
            have hq3 : (0 : Int) ≤ (K : Int) := by omega
            have hq4 : (K : Int) < (dn : Int) := by omega
            have hq6 : K < dn := by omega
            have hst := Ho9t.out.drew.stored K (.int .i64 (n + m))
            have hfin : SumEnd w2 s m e r (.slice (some ⟨g9, 0, none⟩) dn c9) (.slice a10 dn c10) (.int .i64 (1 : Nat)) (wt.drew.setCell ⟨g9, K, none⟩ (.int .i64 (n + m))) := by
              have hdc : (d'.app (.c (n + m) e .z)).cnt = d.cnt := by rw [hd, T.app_cnt, T.app_cnt]; rfl
              refine ⟨d'.app (.c (n + m) e .z), es, some ⟨g9, 0, none⟩, a10, c9, c10, 1, rfl, by rw [hdc, Hdn2.out], by rw [hdc, Hdn2.out], by have := Hdn2.out; omega, ⟨?_, ?_, ?_⟩, ?_, .inr ⟨rfl, ?_⟩⟩
              · rw [hdc]
                have h1 := hst.1
                have h2 : (ints d.times).set K (.int .i64 (n + m)) = ints (d'.app (.c (n + m) e .z)).times := by
                  rw [hd, ← hdK]; exact T.times_set d' e n (n + m)
                rw [h2] at h1
                rw [Hdn2.out]
                exact h1
              · rw [hdc, Hdn2.out]
                exact (Ho10t.out.drew).kept hst.2 (own_ne Ho10t.out Ho9t.out (by decide))
              · have h1 := HEd.out
                rw [hd] at h1
                exact h1.renum
              · exact Hbwt.out.drew.setCell (p := ⟨g9, K, none⟩) (Ho9t.out.lt g9 rfl).1 _
              · rw [hadd, T.app_assoc, Int.add_comm]; rfl
            have Hfin := Lib.hid hfin
            clear hd hadd hd3 hK hdK eK hcc9 hm hst hfin q1
            go_wp2_with fail
            go_still_tail 11, (by kernel_rfl)
            change wpList _ _ _ _ _ wt.drew
            go_wp2_with fail
            go_meet
            exact Hfin.out
        case rest =>
          obtain ⟨d2, es2, b9, b10, e9, e10, fr, rfl, rfl, rfl, hd2s, ⟨ho9, ho10, hE2⟩, hbx, hcase⟩ := hcut
          go_step
          obtain ⟨wx, rfl⟩ : ∃ wx : World, wx = wc := ⟨_, rfl⟩
          obtain ⟨d2n, hd2n⟩ : ∃ k, k = d2.cnt := ⟨_, rfl⟩
          rw [← hd2n] at ho9 ho10 hd2s ⊢
          have Hd2n := Lib.hid hd2n
          have Ho9f := Lib.hid ho9
          have Ho10f := Lib.hid ho10
          have HE2 := Lib.hid hE2
          have Hbx := Lib.hid hbx
          have hxs := hbx.size
          have H1x := Lib.hid (Hb2.out.trans (hbx.mono Hb2.out.size))
          have hnc5 : nt ≤ c5 := own_cap' Ho5.out Hnt.out
          have hnc6 : nt ≤ c6 := own_cap' Ho6.out Hnt.out
          have HC5 := Lib.hid (row_drop Hcc5.out (by rw [ints_len']; exact T.times_len _) hg5 H1x.out)
          have HC6 := Lib.hid (row_drop Hcc6.out HE5.out.length hg6 H1x.out)
          have hnt1 : nt = r.cnt + 1 := Hnt.out
          have HE52 := Lib.hid (HE5.out.below Hb12.out)
          have HE52' := Lib.hid (HE5'.out.below Hb12.out)
          have h11 : (1 : Int) ≤ (nt : Int) := by omega
          have h12 : (nt : Int) ≤ (c5 : Int) := by omega
          have h13 : (nt : Int) ≤ (c6 : Int) := by omega
          have h14 : (1 : Int) ≤ (c5 : Int) := by omega
          have h15 : (1 : Int) ≤ (c6 : Int) := by omega
          have h16 : ¬ c5 = 0 := by omega
          have h17 : ¬ c6 = 0 := by omega
          have h18 : ¬ (c5 : Int) = 0 := by omega
          have h19 : ¬ (c6 : Int) = 0 := by omega
          have hecnt : es5'.length = r.cnt := HE5'.out.length
          have HNT := Lib.hid hnt1
          clear hd2n ho9 ho10 hE2 hbx
          rcases hcase with ⟨rfl, hadd⟩ | ⟨rfl, hadd⟩
          · rw [show ((0 : Nat) : Int) = 0 from rfl]
            have HD := Lib.hid hadd
            have hDl : (d2.app (.c m e r)).enc.length ≤ 1000000000000 := by rw [← hadd]; have h1 := T.add_len s (.c m e r); have := HN1.out; have := HN2.out; omega
            have hlu : (ints (T.c m e r).times).length = (nt) * 1 := by rw [ints_len, T.times_len]; simp [T.cnt]; omega
            have HL5 := Lib.hid hlu
            have hlu6 : (es5).length = (nt) * 1 := by rw [Hes5.out]; simp; omega
            have HL6 := Lib.hid hlu6
            have HO5 := Lib.hid (show ∀ u ∈ ints (T.c m e r).times, u.oneCell' = true by exact ints_one _)
            have HO6 := Lib.hid (show ∀ u ∈ es5, u.oneCell' = true by exact ec_one HE5.out)
            clear hadd hlu hlu6 hnt1 hecnt
            go_wp2_with fail
            go_region_held3 (fun _ => True) (first | trivial | go_keep)
              ((first
                | (refine step_append_own (by rfl) (.tmp 90) (.tmp 93) 23 (by rfl) w2.heap.size 3 i0 (.int .i64 0) 1 8 Try.underlying23 hi hz0 hz1 hz2 rfl (by decide) _ d2n (ints d2.times) (by rfl) (Ho9f.out.drew) ⟨g5, 0, none⟩ (nt) (c5) (ints (T.c m e r).times) (by rfl) HL5.out (by intro j v hj; exact HC5.out 0 j v (by rw [List.drop_zero]; exact hj)) HO5.out (by unfold maxLen; omega) (by omega) hxs ?_; intro v1 wa ho1 hg1 _; have Hk10 := Lib.hid ((Ho10f.out.drew).kept hg1 (own_ne Ho10f.out Ho9f.out (by decide))); have hsa : w2.heap.size ≤ wa.heap.size := Nat.le_trans hxs hg1.size; have Hho1 := Lib.hid ho1; have Hba := Lib.hid ((Hbx.out.drew).grown hg1 hxs (fun r h => (Ho9f.out.lt r h).1)))
                | (refine step_append_own (by rfl) (.tmp 95) (.tmp 98) 71 (by rfl) w2.heap.size 23 j0 (.slice none 0 0) 1 24 Try.underlying71 hj hy0 hy1 hy2 rfl (by decide) _ d2n es2 (by rfl) Hk10.out ⟨g6, 0, none⟩ (nt) (c6) (es5) (by rfl) HL6.out (by have h := HC6.out 0; intro j v hj; exact (hg1.cell (a := (⟨g6, 0, none⟩ : Addr).add j) (h j v (by rw [List.drop_zero]; exact hj)) (by rw [Addr.add_lit]; intro h4; have h5 : w2.heap.size ≤ g6 := (Ho9f.out.lt _ h4.symm).1; omega))) HO6.out (by unfold maxLen; omega) (by omega) hsa ?_; intro v2 wb ho2 hg2 _; have ho1' := Hho1.out.kept hg2 (own_ne Hho1.out Hk10.out (by decide)); obtain ⟨x9, y9, rfl, _⟩ := own_form ho1'; obtain ⟨x10, y10, rfl, _⟩ := own_form ho2; have Hbb := Lib.hid (Hba.out.grown hg2 hsa (fun r h => (Hk10.out.lt r h).1)); have Hsl := Lib.hid (sum_sl (t := d2.app (.c m e r)) ho1' (by rw [T.times_app]; simp [ints])); have Hex := Lib.hid (sum_ex (t := d2.app (.c m e r)) ho2 ((ec_join HE2.out HE52.out).below Hbb.out) (by have h5 := HNT.out; rw [T.app_cnt, ← Hd2n.out]; simp [T.cnt]; omega)); clear ho1' ho2 hg2)
                | (go_at_call 68; (refine (l1Make_any _ _ (d2n + (nt)) _ _ (d2.app (.c m e r)) wb hDl Hex.out Hsl.out).mono ?_); rintro ee we ⟨a', c', rfl, ho, hbe⟩)
                | fail))
            have hfin : IntPost w (d2.app (.c m e r)).enc (.returned (.slice a' (d2.app (.c m e r)).enc.length c')) we := by
              have hs2 : w.heap.size ≤ w2.heap.size := Hb12.out.size
              have h3 := Hb12.out.trans (Hbb.out.mono hs2)
              exact ⟨a', c', rfl, Joins.ownsRow_le ho h3.size, h3.trans (hbe.mono h3.size)⟩
            have Hfin := Lib.hid hfin
            clear hfin ho hbe
            go_wp2_with fail
            go_ret
            rw [HD.out]
            exact Hfin.out
          · rw [show ((1 : Nat) : Int) = 1 from rfl]
            by_cases hn1 : nt = 1
            · have hrz : r = .z := T.cnt_zero (by omega)
              have Hrz := Lib.hid hrz
              clear hrz
              subst hn1
              by_cases hx5 : c5 = 1
              · obtain rfl : 1 = c5 := hx5.symm
                by_cases hx6 : c6 = 1
                · obtain rfl : 1 = c6 := hx6.symm
                  have HD := Lib.hid hadd
                  have hDl : (d2.app r).enc.length ≤ 1000000000000 := by rw [← hadd]; have h1 := T.add_len s (.c m e r); have := HN1.out; have := HN2.out; omega
                  have hlu : (([] : List Value)).length = 0 * 1 := by rfl
                  have HL5 := Lib.hid hlu
                  have hlu6 : (([] : List Value)).length = 0 * 1 := by rfl
                  have HL6 := Lib.hid hlu6
                  have HO5 := Lib.hid (show ∀ u ∈ ([] : List Value), u.oneCell' = true by intro u hu; cases hu)
                  have HO6 := Lib.hid (show ∀ u ∈ ([] : List Value), u.oneCell' = true by intro u hu; cases hu)
                  clear hadd hlu hlu6 hnt1 hecnt
                  go_wp2_with fail
                  go_region_held3 (fun _ => True) (first | trivial | go_keep)
                    ((first
                      | (refine step_append_own (by rfl) (.tmp 90) (.tmp 93) 23 (by rfl) w2.heap.size 3 i0 (.int .i64 0) 1 8 Try.underlying23 hi hz0 hz1 hz2 rfl (by decide) _ d2n (ints d2.times) (by rfl) (Ho9f.out.drew) _ (0) (_) (([] : List Value)) (by rfl) HL5.out (no_news) HO5.out (by unfold maxLen; omega) (by omega) hxs ?_; intro v1 wa ho1 hg1 _; have Hk10 := Lib.hid ((Ho10f.out.drew).kept hg1 (own_ne Ho10f.out Ho9f.out (by decide))); have hsa : w2.heap.size ≤ wa.heap.size := Nat.le_trans hxs hg1.size; have Hho1 := Lib.hid ho1; have Hba := Lib.hid ((Hbx.out.drew).grown hg1 hxs (fun r h => (Ho9f.out.lt r h).1)))
                      | (refine step_append_own (by rfl) (.tmp 95) (.tmp 98) 71 (by rfl) w2.heap.size 23 j0 (.slice none 0 0) 1 24 Try.underlying71 hj hy0 hy1 hy2 rfl (by decide) _ d2n es2 (by rfl) Hk10.out _ (0) (_) (([] : List Value)) (by rfl) HL6.out (no_news) HO6.out (by unfold maxLen; omega) (by omega) hsa ?_; intro v2 wb ho2 hg2 _; have ho1' := Hho1.out.kept hg2 (own_ne Hho1.out Hk10.out (by decide)); obtain ⟨x9, y9, rfl, _⟩ := own_form ho1'; obtain ⟨x10, y10, rfl, _⟩ := own_form ho2; have Hbb := Lib.hid (Hba.out.grown hg2 hsa (fun r h => (Hk10.out.lt r h).1)); have Hsl := Lib.hid (sum_sl (t := d2.app r) ho1' (by rw [Hrz.out, T.app_z]; simp)); have Hex := Lib.hid (sum_ex (t := d2.app r) ho2 ((by have h := HE2.out.below Hbb.out; rw [Hrz.out, T.app_z, List.append_nil]; exact h)) (by rw [Hrz.out, T.app_z]; exact Hd2n.out)); clear ho1' ho2 hg2)
                      | (go_at_call 68; (refine (l1Make_any _ _ (d2n + (0)) _ _ (d2.app r) wb hDl Hex.out Hsl.out).mono ?_); rintro ee we ⟨a', c', rfl, ho, hbe⟩)
                      | fail))
                  have hfin : IntPost w (d2.app r).enc (.returned (.slice a' (d2.app r).enc.length c')) we := by
                    have hs2 : w.heap.size ≤ w2.heap.size := Hb12.out.size
                    have h3 := Hb12.out.trans (Hbb.out.mono hs2)
                    exact ⟨a', c', rfl, Joins.ownsRow_le ho h3.size, h3.trans (hbe.mono h3.size)⟩
                  have Hfin := Lib.hid hfin
                  clear hfin ho hbe
                  go_wp2_with fail
                  go_ret
                  rw [HD.out]
                  exact Hfin.out
                · have hx8 : ¬ (c6 : Int) = 1 := by omega
                  have HD := Lib.hid hadd
                  have hDl : (d2.app r).enc.length ≤ 1000000000000 := by rw [← hadd]; have h1 := T.add_len s (.c m e r); have := HN1.out; have := HN2.out; omega
                  have hlu : (([] : List Value)).length = 0 * 1 := by rfl
                  have HL5 := Lib.hid hlu
                  have hlu6 : (([] : List Value)).length = 0 * 1 := by rfl
                  have HL6 := Lib.hid hlu6
                  have HO5 := Lib.hid (show ∀ u ∈ ([] : List Value), u.oneCell' = true by intro u hu; cases hu)
                  have HO6 := Lib.hid (show ∀ u ∈ ([] : List Value), u.oneCell' = true by intro u hu; cases hu)
                  clear hadd hlu hlu6 hnt1 hecnt
                  go_wp2_with fail
                  go_region_held3 (fun _ => True) (first | trivial | go_keep)
                    ((first
                      | (refine step_append_own (by rfl) (.tmp 90) (.tmp 93) 23 (by rfl) w2.heap.size 3 i0 (.int .i64 0) 1 8 Try.underlying23 hi hz0 hz1 hz2 rfl (by decide) _ d2n (ints d2.times) (by rfl) (Ho9f.out.drew) _ (0) (_) (([] : List Value)) (by rfl) HL5.out (no_news) HO5.out (by unfold maxLen; omega) (by omega) hxs ?_; intro v1 wa ho1 hg1 _; have Hk10 := Lib.hid ((Ho10f.out.drew).kept hg1 (own_ne Ho10f.out Ho9f.out (by decide))); have hsa : w2.heap.size ≤ wa.heap.size := Nat.le_trans hxs hg1.size; have Hho1 := Lib.hid ho1; have Hba := Lib.hid ((Hbx.out.drew).grown hg1 hxs (fun r h => (Ho9f.out.lt r h).1)))
                      | (refine step_append_own (by rfl) (.tmp 95) (.tmp 98) 71 (by rfl) w2.heap.size 23 j0 (.slice none 0 0) 1 24 Try.underlying71 hj hy0 hy1 hy2 rfl (by decide) _ d2n es2 (by rfl) Hk10.out _ (0) (_) (([] : List Value)) (by rfl) HL6.out (no_news) HO6.out (by unfold maxLen; omega) (by omega) hsa ?_; intro v2 wb ho2 hg2 _; have ho1' := Hho1.out.kept hg2 (own_ne Hho1.out Hk10.out (by decide)); obtain ⟨x9, y9, rfl, _⟩ := own_form ho1'; obtain ⟨x10, y10, rfl, _⟩ := own_form ho2; have Hbb := Lib.hid (Hba.out.grown hg2 hsa (fun r h => (Hk10.out.lt r h).1)); have Hsl := Lib.hid (sum_sl (t := d2.app r) ho1' (by rw [Hrz.out, T.app_z]; simp)); have Hex := Lib.hid (sum_ex (t := d2.app r) ho2 ((by have h := HE2.out.below Hbb.out; rw [Hrz.out, T.app_z, List.append_nil]; exact h)) (by rw [Hrz.out, T.app_z]; exact Hd2n.out)); clear ho1' ho2 hg2)
                      | (go_at_call 68; (refine (l1Make_any _ _ (d2n + (0)) _ _ (d2.app r) wb hDl Hex.out Hsl.out).mono ?_); rintro ee we ⟨a', c', rfl, ho, hbe⟩)
                      | fail))
                  have hfin : IntPost w (d2.app r).enc (.returned (.slice a' (d2.app r).enc.length c')) we := by
                    have hs2 : w.heap.size ≤ w2.heap.size := Hb12.out.size
                    have h3 := Hb12.out.trans (Hbb.out.mono hs2)
                    exact ⟨a', c', rfl, Joins.ownsRow_le ho h3.size, h3.trans (hbe.mono h3.size)⟩
                  have Hfin := Lib.hid hfin
                  clear hfin ho hbe
                  go_wp2_with fail
                  go_ret
                  rw [HD.out]
                  exact Hfin.out
              · have hx7 : ¬ (c5 : Int) = 1 := by omega
                by_cases hx6 : c6 = 1
                · obtain rfl : 1 = c6 := hx6.symm
                  have HD := Lib.hid hadd
                  have hDl : (d2.app r).enc.length ≤ 1000000000000 := by rw [← hadd]; have h1 := T.add_len s (.c m e r); have := HN1.out; have := HN2.out; omega
                  have hlu : (([] : List Value)).length = 0 * 1 := by rfl
                  have HL5 := Lib.hid hlu
                  have hlu6 : (([] : List Value)).length = 0 * 1 := by rfl
                  have HL6 := Lib.hid hlu6
                  have HO5 := Lib.hid (show ∀ u ∈ ([] : List Value), u.oneCell' = true by intro u hu; cases hu)
                  have HO6 := Lib.hid (show ∀ u ∈ ([] : List Value), u.oneCell' = true by intro u hu; cases hu)
                  clear hadd hlu hlu6 hnt1 hecnt
                  go_wp2_with fail
                  go_region_held3 (fun _ => True) (first | trivial | go_keep)
                    ((first
                      | (refine step_append_own (by rfl) (.tmp 90) (.tmp 93) 23 (by rfl) w2.heap.size 3 i0 (.int .i64 0) 1 8 Try.underlying23 hi hz0 hz1 hz2 rfl (by decide) _ d2n (ints d2.times) (by rfl) (Ho9f.out.drew) _ (0) (_) (([] : List Value)) (by rfl) HL5.out (no_news) HO5.out (by unfold maxLen; omega) (by omega) hxs ?_; intro v1 wa ho1 hg1 _; have Hk10 := Lib.hid ((Ho10f.out.drew).kept hg1 (own_ne Ho10f.out Ho9f.out (by decide))); have hsa : w2.heap.size ≤ wa.heap.size := Nat.le_trans hxs hg1.size; have Hho1 := Lib.hid ho1; have Hba := Lib.hid ((Hbx.out.drew).grown hg1 hxs (fun r h => (Ho9f.out.lt r h).1)))
                      | (refine step_append_own (by rfl) (.tmp 95) (.tmp 98) 71 (by rfl) w2.heap.size 23 j0 (.slice none 0 0) 1 24 Try.underlying71 hj hy0 hy1 hy2 rfl (by decide) _ d2n es2 (by rfl) Hk10.out _ (0) (_) (([] : List Value)) (by rfl) HL6.out (no_news) HO6.out (by unfold maxLen; omega) (by omega) hsa ?_; intro v2 wb ho2 hg2 _; have ho1' := Hho1.out.kept hg2 (own_ne Hho1.out Hk10.out (by decide)); obtain ⟨x9, y9, rfl, _⟩ := own_form ho1'; obtain ⟨x10, y10, rfl, _⟩ := own_form ho2; have Hbb := Lib.hid (Hba.out.grown hg2 hsa (fun r h => (Hk10.out.lt r h).1)); have Hsl := Lib.hid (sum_sl (t := d2.app r) ho1' (by rw [Hrz.out, T.app_z]; simp)); have Hex := Lib.hid (sum_ex (t := d2.app r) ho2 ((by have h := HE2.out.below Hbb.out; rw [Hrz.out, T.app_z, List.append_nil]; exact h)) (by rw [Hrz.out, T.app_z]; exact Hd2n.out)); clear ho1' ho2 hg2)
                      | (go_at_call 68; (refine (l1Make_any _ _ (d2n + (0)) _ _ (d2.app r) wb hDl Hex.out Hsl.out).mono ?_); rintro ee we ⟨a', c', rfl, ho, hbe⟩)
                      | fail))
                  have hfin : IntPost w (d2.app r).enc (.returned (.slice a' (d2.app r).enc.length c')) we := by
                    have hs2 : w.heap.size ≤ w2.heap.size := Hb12.out.size
                    have h3 := Hb12.out.trans (Hbb.out.mono hs2)
                    exact ⟨a', c', rfl, Joins.ownsRow_le ho h3.size, h3.trans (hbe.mono h3.size)⟩
                  have Hfin := Lib.hid hfin
                  clear hfin ho hbe
                  go_wp2_with fail
                  go_ret
                  rw [HD.out]
                  exact Hfin.out
                · have hx8 : ¬ (c6 : Int) = 1 := by omega
                  have HD := Lib.hid hadd
                  have hDl : (d2.app r).enc.length ≤ 1000000000000 := by rw [← hadd]; have h1 := T.add_len s (.c m e r); have := HN1.out; have := HN2.out; omega
                  have hlu : (([] : List Value)).length = 0 * 1 := by rfl
                  have HL5 := Lib.hid hlu
                  have hlu6 : (([] : List Value)).length = 0 * 1 := by rfl
                  have HL6 := Lib.hid hlu6
                  have HO5 := Lib.hid (show ∀ u ∈ ([] : List Value), u.oneCell' = true by intro u hu; cases hu)
                  have HO6 := Lib.hid (show ∀ u ∈ ([] : List Value), u.oneCell' = true by intro u hu; cases hu)
                  clear hadd hlu hlu6 hnt1 hecnt
                  go_wp2_with fail
                  go_region_held3 (fun _ => True) (first | trivial | go_keep)
                    ((first
                      | (refine step_append_own (by rfl) (.tmp 90) (.tmp 93) 23 (by rfl) w2.heap.size 3 i0 (.int .i64 0) 1 8 Try.underlying23 hi hz0 hz1 hz2 rfl (by decide) _ d2n (ints d2.times) (by rfl) (Ho9f.out.drew) _ (0) (_) (([] : List Value)) (by rfl) HL5.out (no_news) HO5.out (by unfold maxLen; omega) (by omega) hxs ?_; intro v1 wa ho1 hg1 _; have Hk10 := Lib.hid ((Ho10f.out.drew).kept hg1 (own_ne Ho10f.out Ho9f.out (by decide))); have hsa : w2.heap.size ≤ wa.heap.size := Nat.le_trans hxs hg1.size; have Hho1 := Lib.hid ho1; have Hba := Lib.hid ((Hbx.out.drew).grown hg1 hxs (fun r h => (Ho9f.out.lt r h).1)))
                      | (refine step_append_own (by rfl) (.tmp 95) (.tmp 98) 71 (by rfl) w2.heap.size 23 j0 (.slice none 0 0) 1 24 Try.underlying71 hj hy0 hy1 hy2 rfl (by decide) _ d2n es2 (by rfl) Hk10.out _ (0) (_) (([] : List Value)) (by rfl) HL6.out (no_news) HO6.out (by unfold maxLen; omega) (by omega) hsa ?_; intro v2 wb ho2 hg2 _; have ho1' := Hho1.out.kept hg2 (own_ne Hho1.out Hk10.out (by decide)); obtain ⟨x9, y9, rfl, _⟩ := own_form ho1'; obtain ⟨x10, y10, rfl, _⟩ := own_form ho2; have Hbb := Lib.hid (Hba.out.grown hg2 hsa (fun r h => (Hk10.out.lt r h).1)); have Hsl := Lib.hid (sum_sl (t := d2.app r) ho1' (by rw [Hrz.out, T.app_z]; simp)); have Hex := Lib.hid (sum_ex (t := d2.app r) ho2 ((by have h := HE2.out.below Hbb.out; rw [Hrz.out, T.app_z, List.append_nil]; exact h)) (by rw [Hrz.out, T.app_z]; exact Hd2n.out)); clear ho1' ho2 hg2)
                      | (go_at_call 68; (refine (l1Make_any _ _ (d2n + (0)) _ _ (d2.app r) wb hDl Hex.out Hsl.out).mono ?_); rintro ee we ⟨a', c', rfl, ho, hbe⟩)
                      | fail))
                  have hfin : IntPost w (d2.app r).enc (.returned (.slice a' (d2.app r).enc.length c')) we := by
                    have hs2 : w.heap.size ≤ w2.heap.size := Hb12.out.size
                    have h3 := Hb12.out.trans (Hbb.out.mono hs2)
                    exact ⟨a', c', rfl, Joins.ownsRow_le ho h3.size, h3.trans (hbe.mono h3.size)⟩
                  have Hfin := Lib.hid hfin
                  clear hfin ho hbe
                  go_wp2_with fail
                  go_ret
                  rw [HD.out]
                  exact Hfin.out
            · have hx5 : ¬ c5 = 1 := by omega
              have hx6 : ¬ c6 = 1 := by omega
              have hx7 : ¬ (c5 : Int) = 1 := by omega
              have hx8 : ¬ (c6 : Int) = 1 := by omega
              have HD := Lib.hid hadd
              have hDl : (d2.app r).enc.length ≤ 1000000000000 := by rw [← hadd]; have h1 := T.add_len s (.c m e r); have := HN1.out; have := HN2.out; omega
              have hlu : (ints r.times).length = (nt - 1) * 1 := by rw [ints_len, T.times_len]; omega
              have HL5 := Lib.hid hlu
              have hlu6 : (es5').length = (nt - 1) * 1 := by omega
              have HL6 := Lib.hid hlu6
              have HO5 := Lib.hid (show ∀ u ∈ ints r.times, u.oneCell' = true by exact ints_one _)
              have HO6 := Lib.hid (show ∀ u ∈ es5', u.oneCell' = true by exact ec_one HE5'.out)
              clear hadd hlu hlu6 hnt1 hecnt
              go_wp2_with fail
              go_region_held3 (fun _ => True) (first | trivial | go_keep)
                ((first
                  | (refine step_append_own (by rfl) (.tmp 90) (.tmp 93) 23 (by rfl) w2.heap.size 3 i0 (.int .i64 0) 1 8 Try.underlying23 hi hz0 hz1 hz2 rfl (by decide) _ d2n (ints d2.times) (by rfl) (Ho9f.out.drew) ⟨g5, 1, none⟩ (nt - 1) (c5 - 1) (ints r.times) (by rfl) HL5.out (by have h := HC5.out 1; exact h) HO5.out (by unfold maxLen; omega) (by omega) hxs ?_; intro v1 wa ho1 hg1 _; have Hk10 := Lib.hid ((Ho10f.out.drew).kept hg1 (own_ne Ho10f.out Ho9f.out (by decide))); have hsa : w2.heap.size ≤ wa.heap.size := Nat.le_trans hxs hg1.size; have Hho1 := Lib.hid ho1; have Hba := Lib.hid ((Hbx.out.drew).grown hg1 hxs (fun r h => (Ho9f.out.lt r h).1)))
                  | (refine step_append_own (by rfl) (.tmp 95) (.tmp 98) 71 (by rfl) w2.heap.size 23 j0 (.slice none 0 0) 1 24 Try.underlying71 hj hy0 hy1 hy2 rfl (by decide) _ d2n es2 (by rfl) Hk10.out ⟨g6, 1, none⟩ (nt - 1) (c6 - 1) (es5') (by rfl) HL6.out (by have h := HC6.out 1; rw [Hes5.out] at h; intro j v hj; exact (hg1.cell (a := (⟨g6, 1, none⟩ : Addr).add j) (h j v (by simpa using hj)) (by rw [Addr.add_lit]; intro h4; have h5 : w2.heap.size ≤ g6 := (Ho9f.out.lt _ h4.symm).1; omega))) HO6.out (by unfold maxLen; omega) (by omega) hsa ?_; intro v2 wb ho2 hg2 _; have ho1' := Hho1.out.kept hg2 (own_ne Hho1.out Hk10.out (by decide)); obtain ⟨x9, y9, rfl, _⟩ := own_form ho1'; obtain ⟨x10, y10, rfl, _⟩ := own_form ho2; have Hbb := Lib.hid (Hba.out.grown hg2 hsa (fun r h => (Hk10.out.lt r h).1)); have Hsl := Lib.hid (sum_sl (t := d2.app r) ho1' (by rw [T.times_app]; simp [ints])); have Hex := Lib.hid (sum_ex (t := d2.app r) ho2 ((ec_join HE2.out HE52'.out).below Hbb.out) (by have h5 := HNT.out; rw [T.app_cnt, ← Hd2n.out]; omega)); clear ho1' ho2 hg2)
                  | (go_at_call 68; (refine (l1Make_any _ _ (d2n + (nt - 1)) _ _ (d2.app r) wb hDl Hex.out Hsl.out).mono ?_); rintro ee we ⟨a', c', rfl, ho, hbe⟩)
                  | fail))
              have hfin : IntPost w (d2.app r).enc (.returned (.slice a' (d2.app r).enc.length c')) we := by
                have hs2 : w.heap.size ≤ w2.heap.size := Hb12.out.size
                have h3 := Hb12.out.trans (Hbb.out.mono hs2)
                exact ⟨a', c', rfl, Joins.ownsRow_le ho h3.size, h3.trans (hbe.mono h3.size)⟩
              have Hfin := Lib.hid hfin
              clear hfin ho hbe
              go_wp2_with fail
              go_ret
              rw [HD.out]
              exact Hfin.out

end Go.Proofs.Ythalogciiochfaa

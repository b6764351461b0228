/- The model's l5Add: the natural sum of an ordinal and one of one term. -/
import Derived.Test.YtigkceenhocidaaHydN
import Derived.Test.YtigkceenhocidaaTerms2
import Derived.Test.YtigkceenhocidaaHydT
import Derived.Test.YtigkceenhocidaaMakeS
import Derived.Test.YtigkceenhocidaaCmpS
import Derived.Deep.CutBlock
import Derived.Deep.DeepCutAuto
namespace Go.Proofs.Ytigkceenhocidaa
set_option maxRecDepth 100000
open Go.RowKit

def AddR (w : World) (s e : T) (dn : Bool) (v9 v10 v12 : Value) (wr : World) : Prop :=
  ∃ (i n : Nat) (D d u : T) (es : List Value) (a9 a10 : Option Addr) (c9 c10 : Nat), v12 = .int .i64 i ∧ d.app u = s ∧ d.cnt = i ∧ n = D.cnt ∧ n ≤ i + 1 ∧ v9 = .slice a9 n c9 ∧ v10 = .slice a10 n c10 ∧
    wr.ownsRow w.heap.size 3 1 v9 n (ints D.times) ∧ wr.ownsRow w.heap.size 22 1 v10 n es ∧ EC w D es ∧ Below w.heap.size w wr ∧
    ((dn = false ∧ D = d ∧ T.nat s (.c 1 e .z) = d.app (T.nat u (.c 1 e .z))) ∨ (dn = true ∧ T.nat s (.c 1 e .z) = D.app u ∧ T.ok (some e) u)) ∧ u.Nf

theorem T.ok_trans {e f q : T} (h : T.ok (some f) q) (h2 : f.cmp e = -1) : T.ok (some e) q := by
  intro g hg n h' r hr
  cases hg
  exact T.cmp_trans (h f rfl n h' r hr) h2

theorem grown_cell {w w' : World} {row : Option Nat} {o : Obj} {b off : Nat} {x : Value} (h : w.cell? ⟨b, off, none⟩ = some x) (hg : (w.alloc o).grownBy w' row) (hr : ∀ k, row = some k → b ≠ k) : w'.cell? ⟨b, off, none⟩ = some x := by
  refine hg.cell (a := ⟨b, off, none⟩) ?_ (fun e => hr b e.symm rfl)
  rw [World.cell?_alloc_past _ _ _ (World.block_lt_of_cell? w _ h)]
  exact h

set_option maxHeartbeats 4000000 in
theorem l5Add_any (b1 o1 n1 c1 b2 o2 n2 c2 : Nat) (s e : T) (w : World) (hn1 : n1 = s.enc.length) (hn2 : n2 = (T.c 1 e .z).enc.length) (hb1 : n1 ≤ 1000) (hb2 : n2 ≤ 1000) (hc1 : n1 ≤ c1) (hm1 : c1 ≤ maxLen) (hc2 : n2 ≤ c2) (hm2 : c2 ≤ maxLen)
    (hA1 : At w b1 o1 s.enc) (hA2 : At w b2 o2 (T.c 1 e .z).enc) (hs : s.Nf) :
    Calls Try.prog 82 #[.slice (some ⟨b1, o1, none⟩) n1 c1, .slice (some ⟨b2, o2, none⟩) n2 c2] w (RowPost w (T.nat s (.c 1 e .z)).enc) := by
  obtain ⟨i0, hi, hz0, hz1, hz2⟩ := info_parts info_int
  obtain ⟨j0, hj, hy0, hy1, hy2⟩ := info_parts info_ints
  have k1 := Lib.hid (l1Terms_some b1 o1 n1 c1 s.enc s w hn1.symm (by omega) hc1 hm1 hA1 rfl)
  have hA2' := fun w' (hb : Below w.heap.size w w') => hA2.below hb (hA2.lt (T.enc_ne _))
  have k2 := Lib.hid (fun w' hb => l1Terms_some b2 o2 n2 c2 (T.c 1 e .z).enc (.c 1 e .z) w' hn2.symm (by omega) hc2 hm2 (hA2' w' hb) rfl)
  have hcs := T.cnt_le s
  have hes := T.enc_len s
  have hel : e.enc.length ≤ 1000 := by rw [hn2, T.enc_len, T.body_c] at hb2; simp at hb2; omega
  have hfl : ∀ (d q : T) (x : Int) (f : T), d.app (.c x f q) = s → f.enc.length ≤ 1000 := by
    intro d q x f h
    have h1 := congrArg (fun t => T.body t) h
    have h2 := congrArg List.length h1
    simp only [T.app_body, T.body_c, List.length_append, List.length_cons] at h2
    omega
  have hsl := T.nat_len s (.c 1 e .z)
  have hnl : (T.nat s (.c 1 e .z)).enc.length ≤ 5000 := by
    have h1 := T.enc_len (T.nat s (.c 1 e .z))
    have h2 := T.enc_len (T.c 1 e .z)
    omega
  obtain ⟨K, hK⟩ : ∃ K, K = s.cnt := ⟨_, rfl⟩
  have hK1 : K ≤ 1000 := by omega
  rw [← hK] at k1
  simp only [show (T.c 1 e .z).cnt = 1 from rfl] at k2
  have HK := Lib.hid hK
  have Hfl := Lib.hid hfl
  have Hnl := Lib.hid hnl
  have HS := Lib.hid hs
  clear hn1 hn2 hA1 hA2 hA2' hs hcs hes hfl hsl hnl hK
  go_enter Try.func82, Try.ntmps82
  go_wp2_with fail
  refine (k1.out).mono ?_
  rintro ee w1 ⟨g1, q1, g2, q2, es1, rfl, hx1, hx2, hE1, hbA⟩
  have k3 := Lib.hid (k2.out w1 hbA)
  have HbA := Lib.hid hbA
  have Hx1 := Lib.hid hx1
  have Hx2 := Lib.hid hx2
  have HE1' := Lib.hid (hE1.below hbA)
  clear hbA hx1 hx2 hE1
  go_wp2_with fail
  refine (k3.out).mono ?_
  rintro ee w2 ⟨g3, q3, g4, q4, es2, rfl, _, hx4, hE2, hbB⟩
  have Hb2 := Lib.hid (HbA.out.trans (hbB.mono HbA.out.size))
  have Hy1 := Lib.hid (ownsRow_below' Hx1.out hbB)
  have Hy2 := Lib.hid (ownsRow_below' Hx2.out hbB)
  have Hy4 := Lib.hid hx4
  have HE1 := Lib.hid (HE1'.out.below hbB)
  obtain ⟨be, oe, ce, p2, p3, p4, p5⟩ := (hE2.below hbB).pick (d := .z) (e := e) (r := .z) (n := 1) rfl rfl
  have hl1 : g1 < w2.heap.size := (Hy1.out.lt g1 rfl).2
  have hl2 : g2 < w2.heap.size := (Hy2.out.lt g2 rfl).2
  have hl4 : g4 < w2.heap.size := (hx4.lt g4 rfl).2
  have y4 : w2.cell? ⟨g4, 0, none⟩ = some (.slice (some ⟨be, oe, none⟩) e.enc.length ce) := (hx4.cellAt 0 (by simp)).trans p2
  obtain ⟨le, hle⟩ : ∃ le, le = e.enc.length := ⟨_, rfl⟩
  rw [← hle] at y4 hel
  have Hle := Lib.hid hle
  have Hpe := Lib.hid (show At w2 be oe e.enc ∧ e.enc.length ≤ ce ∧ ce ≤ maxLen from ⟨p3, p4, p5⟩)
  have hst : AddR w2 s e false (.slice (some ⟨w2.heap.size, 0, none⟩) 0 0) (.slice (some ⟨w2.heap.size + 1, 0, none⟩) 0 0) (.int .i64 ((0 : Nat) : Int)) ((w2.alloc (.cells #[] 3)).alloc (.cells #[] 22)) := by
    have hL : (w2.alloc (.cells #[] 3)).ownsRow w2.heap.size 3 1 (.slice (some ⟨w2.heap.size, 0, none⟩) 0 0) 0 (ints []) := World.ownsRow_lit w2 #[] 0 (Nat.le_refl _) (by simp [maxLen]) rfl
    have hL2 := World.ownsRow_lit (base := w2.heap.size) (e := 22) (size := 1) (w2.alloc (.cells #[] 3)) #[] 0 (by simp) (by simp [maxLen]) rfl
    rw [World.size_alloc] at hL2
    exact ⟨0, 0, .z, .z, s, [], _, _, 0, 0, rfl, rfl, rfl, rfl, Nat.zero_le _, rfl, rfl, hL.alloc _, hL2, rfl, ((Below.refl _ _).alloc (Nat.le_refl _) _).alloc (by simp) _, .inl ⟨rfl, rfl, rfl⟩, HS.out⟩
  have Hst := Lib.hid hst
  clear hx4 hE2 hbB p2 p3 p4 p5 hst hle
  go_wp2_with fail
  go_loopw [9, 10, 11, 12] (fun v9 v10 v11 v12 wr => ∃ dn : Bool, v11 = .bool dn ∧ AddR w2 s e dn v9 v10 v12 wr) (fun _ _ _ v12 _ => K - (intOf v12).toNat)
  case atStart => exact ⟨false, rfl, Hst.out⟩
  case round =>
    obtain ⟨dn, rfl, i, n, D, d, u, es, a9, a10, c9, c10, rfl, h1, h2, h3, hni, rfl, rfl, ho9, ho10, hEC, hbr, hway, hun⟩ := hrel
    have hci : K = i + u.cnt := by rw [HK.out, ← h1, T.app_cnt, h2]
    have Ho9 := Lib.hid ho9
    have Ho10 := Lib.hid ho10
    have HEC := Lib.hid hEC
    have Hbr := Lib.hid hbr
    have hsr := hbr.size
    by_cases hlt : i < K
    · obtain ⟨x, f, q, rfl⟩ : ∃ x f q, u = .c x f q := T.cnt_pos (by omega)
      obtain ⟨bf, of, cf, p2, p3, p4, p5⟩ := HE1.out.pick h1 h2
      have x1 : wr.cell? ⟨g1, i, none⟩ = some (.int .i64 x) := (hbr.cell (p := ⟨g1, i, none⟩) hl1).trans ((Hy1.out.cellAt i (by omega)).trans (by rw [List.getElem?_map, T.times_pick h1 h2]; rfl))
      have x2 : wr.cell? ⟨g2, i, none⟩ = some (.slice (some ⟨bf, of, none⟩) f.enc.length cf) := (hbr.cell (p := ⟨g2, i, none⟩) hl2).trans ((Hy2.out.cellAt i (by omega)).trans p2)
      have x4 : wr.cell? ⟨g4, 0, none⟩ = some (.slice (some ⟨be, oe, none⟩) le ce) := (hbr.cell (p := ⟨g4, 0, none⟩) hl4).trans y4
      have hd0 : Below wr.heap.size wr wr.drew := (Below.refl _ _).drew
      have hl1' : g1 < wr.heap.size := Nat.lt_of_lt_of_le hl1 hsr
      have hl2' : g2 < wr.heap.size := Nat.lt_of_lt_of_le hl2 hsr
      have hl4' : g4 < wr.heap.size := Nat.lt_of_lt_of_le hl4 hsr
      have haf : At wr bf of f.enc := p3.below hbr (p3.lt (T.enc_ne f))
      have hae : At wr be oe e.enc := Hpe.out.1.below hbr (Hpe.out.1.lt (T.enc_ne e))
      have kc := Lib.hid (l1Compare_any (f.body.length + 1) bf of cf be oe ce f.enc.length le f e wr.drew (by omega) rfl Hle.out (by have := Hfl.out d q x f h1; omega) (by omega) p4 p5 (by have := Hpe.out.2.1; have := Hle.out; omega) Hpe.out.2.2 (haf.below hd0 (haf.lt (T.enc_ne f))) (hae.below hd0 (hae.lt (T.enc_ne e))))
      have Hpf := Lib.hid (show At w2 bf of f.enc ∧ f.enc.length ≤ cf ∧ cf ≤ maxLen from ⟨p3, p4, p5⟩)
      have HU := Lib.hid (show d.app (.c x f q) = s ∧ d.cnt = i ∧ n = D.cnt ∧ K = i + (T.c x f q).cnt from ⟨h1, h2, h3, hci⟩)
      have HN := Lib.hid hun
      obtain ⟨hx1, hx2, _, _, _⟩ := hun
      have Hway := Lib.hid hway
      clear h1 h2 h3 hci p2 p3 p4 p5 ho9 ho10 hEC hbr haf hae
      rcases hway with ⟨hdn, hDd, hnat⟩ | ⟨hdn, hnat, hok⟩
      · subst hdn
        subst hDd
        rcases T.cmp_vals f e with hcm | hcm | hcm
        · have Hcm := Lib.hid hcm
          rw [hcm] at kc
          have hnn : T.nat s (.c 1 e .z) = D.app (.c 1 e (.c x f q)) := by rw [hnat, T.nat_lt x 1 q .z hcm, T.nat_z]
          have Hnn := Lib.hid hnn
          clear hcm hnat hnn Hway
          go_wp2_with fail
          go_region_held3 (fun w' => w'.cell? ⟨g2, i, none⟩ = some (.slice (some ⟨bf, of, none⟩) f.enc.length cf) ∧ w'.cell? ⟨g4, 0, none⟩ = some (.slice (some ⟨be, oe, none⟩) le ce)) (first | go_keep | exact ⟨kS0, kS1⟩)
            ((first
              | (go_at_call 63; (with_reducible refine (kc.out).mono ?_); rintro ee wc ⟨rfl, hbc⟩; have hbc' : Below wr.heap.size wr wc := hd0.trans hbc; have kS0 := (hbc'.cell (p := ⟨g2, i, none⟩) hl2').trans x2; have kS1 := (hbc'.cell (p := ⟨g4, 0, none⟩) hl4').trans x4)
              | fail))
          have z1 : wc.cell? ⟨g1, i, none⟩ = some (.int .i64 x) := (hbc'.cell (p := ⟨g1, i, none⟩) hl1').trans x1
          have HT0 := Lib.hid (ownsRow_below' Ho9.out hbc')
          have HE0 := Lib.hid (ownsRow_below' Ho10.out hbc')
          have Hbc := Lib.hid (Hbr.out.trans (hbc'.mono Hbr.out.size))
          have hsc := Hbc.out.size
          have hsr2 := hbc'.size
          clear hbc hbc'
          go_wp2_with (first
            | (at_builtin; refine wpList_append_own _ rfl (.tmp 46) (.tmp 47) 22 rfl w2.heap.size 3 i0 (.int .i64 0) 1 8 Try.underlying22 hi hz0 hz1 hz2 rfl (by decide) _ _ _ rfl (HT0.out.alloc _) ⟨wc.heap.size, 0, none⟩ 1 1 [.int .i64 1] rfl rfl (cell_one_new _ _ _) (ints_oneCell _ [1]) (by unfold maxLen; omega) (by omega) (by simp; omega) ?_; intro v9a wa hoA hgA _; have hqwa := le_of_alloc hgA; have HR1 := Lib.hid (ho2b_of HE0.out hgA (own_ne HT0.out HE0.out (by decide))); have x4a : wa.cell? ⟨g4, 0, none⟩ = some (.slice (some ⟨be, oe, none⟩) le ce) := grown_cell kS1 hgA (fun k hk => by have := (HT0.out.lt k hk).1; omega))
            | (at_builtin; refine wpList_append_own _ rfl (.tmp 49) (.tmp 53) 48 rfl w2.heap.size 22 j0 (.slice none 0 0) 1 24 Try.underlying48 hj hy0 hy1 hy2 rfl (by decide) _ _ _ rfl (HR1.out.alloc _) ⟨wa.heap.size, 0, none⟩ 1 1 [.slice (some ⟨be, oe, none⟩) le ce] rfl rfl (cell_one_new _ _ _) (slice_oneCell _ _ _) (by unfold maxLen; omega) (by omega) (by simp; omega) ?_; intro v10a wb hoB hgB _; have HT1 := Lib.hid (kept_of hoA hgB (own_ne hoA HR1.out (by decide))); have z1b : wb.cell? ⟨g1, i, none⟩ = some (.int .i64 x) := grown_cell (grown_cell z1 hgA (fun k hk => by have := (HT0.out.lt k hk).1; omega)) hgB (fun k hk => by have := (HR1.out.lt k hk).1; omega); have z2b : wb.cell? ⟨g2, i, none⟩ = some (.slice (some ⟨bf, of, none⟩) f.enc.length cf) := grown_cell (grown_cell kS0 hgA (fun k hk => by have := (HT0.out.lt k hk).1; omega)) hgB (fun k hk => by have := (HR1.out.lt k hk).1; omega); have HE2 := Lib.hid hoB; have Hbb := Lib.hid ((((Hbc.out.alloc (by omega) _).grown hgA (by simp; omega) (fun k hk => (HT0.out.lt k hk).1)).alloc (by omega) _).grown hgB (by simp; omega) (fun k hk => (HR1.out.lt k hk).1)); have hsb := Hbb.out.size; obtain ⟨a9', c9', rfl, _⟩ := own_form HT1.out; obtain ⟨a10', c10', rfl, _⟩ := own_form HE2.out)
            | (at_builtin; refine wpList_append_own _ rfl (.tmp 55) (.tmp 60) 22 rfl w2.heap.size 3 i0 (.int .i64 0) 1 8 Try.underlying22 hi hz0 hz1 hz2 rfl (by decide) _ _ _ rfl (HT1.out.alloc _) ⟨wb.heap.size, 0, none⟩ 1 1 [.int .i64 x] rfl rfl (cell_one_new _ _ _) (ints_oneCell _ [x]) (by unfold maxLen; omega) (by omega) (by simp; omega) ?_; intro v9b wd hoC hgC _; have hqwd := le_of_alloc hgC; have HR3 := Lib.hid (ho2b_of HE2.out hgC (own_ne HT1.out HE2.out (by decide))); have z2d : wd.cell? ⟨g2, i, none⟩ = some (.slice (some ⟨bf, of, none⟩) f.enc.length cf) := grown_cell z2b hgC (fun k hk => by have := (HT1.out.lt k hk).1; omega))
            | (at_builtin; refine wpList_append_own _ rfl (.tmp 62) (.tmp 67) 48 rfl w2.heap.size 22 j0 (.slice none 0 0) 1 24 Try.underlying48 hj hy0 hy1 hy2 rfl (by decide) _ _ _ rfl (HR3.out.alloc _) ⟨wd.heap.size, 0, none⟩ 1 1 [.slice (some ⟨bf, of, none⟩) f.enc.length cf] rfl rfl (cell_one_new _ _ _) (slice_oneCell _ _ _) (by unfold maxLen; omega) (by omega) (by simp; omega) ?_; intro v10b we hoD hgD _))
          obtain ⟨a9'', c9'', rfl, _⟩ := own_form hoC
          obtain ⟨a10'', c10'', rfl, _⟩ := own_form hoD
          have hfin : AddR w2 s e true (.slice a9'' (n + 1 + 1) c9'') (.slice a10'' (n + 1 + 1) c10'') (.int .i64 ((i + 1 : Nat) : Int)) we := by
            obtain ⟨h1, h2, h3, h4⟩ := HU.out
            have hEe : EC w2 (D.app (.c 1 e .z)) (es ++ [.slice (some ⟨be, oe, none⟩) le ce]) := by
              have := HEC.out.snoc (n := 1) Hpe.out.1 Hpe.out.2.1 Hpe.out.2.2
              rw [← Hle.out] at this
              exact this
            refine ⟨i + 1, n + 1 + 1, (D.app (.c 1 e .z)).app (.c x f .z), D.app (.c x f .z), q, es ++ [.slice (some ⟨be, oe, none⟩) le ce] ++ [.slice (some ⟨bf, of, none⟩) f.enc.length cf], a9'', a10'', c9'', c10'', rfl, by rw [T.app_assoc]; exact h1, by rw [T.app_cnt, h2]; rfl, by rw [T.app_cnt, T.app_cnt, ← h3]; rfl, by omega, rfl, rfl, ?_, hoD, hEe.snoc Hpf.out.1 Hpf.out.2.1 Hpf.out.2.2, (((((Hbb.out.alloc (by omega) _).grown hgC (by simp; omega) (fun k hk => (HT1.out.lt k hk).1)).alloc (by omega) _).grown hgD (by simp; omega) (fun k hk => (HR3.out.lt k hk).1))), .inr ⟨rfl, by rw [Hnn.out, T.app_assoc, T.app_assoc]; rfl, T.ok_trans HN.out.2.2.2.2 Hcm.out⟩, HN.out.2.2.2.1⟩
            rw [T.times_app, T.times_app]
            have := kept_of hoC hgD (own_ne hoC HR3.out (by decide))
            simpa [ints, T.times] using this
          have Hfin := Lib.hid hfin
          clear hoA hgA hoB hgB hoC hgC hoD hgD hfin
          go_roundw
          case rel => exact ⟨true, rfl, Hfin.out⟩
          case measure => simp [intOf]; omega
        · have Hcm := Lib.hid hcm
          have hfe := T.cmp_eq hcm
          rw [hcm] at kc
          have hnn : T.nat s (.c 1 e .z) = (D.app (.c (x + 1) f .z)).app q := by rw [hnat, T.nat_eq x 1 q .z hcm, T.nat_z, T.app_assoc]; rfl
          have Hnn := Lib.hid hnn
          have Hfe := Lib.hid hfe
          clear hcm hfe hnat hnn Hway
          go_wp2_with fail
          go_region_held3 (fun w' => w'.cell? ⟨g2, i, none⟩ = some (.slice (some ⟨bf, of, none⟩) f.enc.length cf) ∧ w'.cell? ⟨g4, 0, none⟩ = some (.slice (some ⟨be, oe, none⟩) le ce)) (first | go_keep | exact ⟨kS0, kS1⟩)
            ((first
              | (go_at_call 63; (with_reducible refine (kc.out).mono ?_); rintro ee wc ⟨rfl, hbc⟩; have hbc' : Below wr.heap.size wr wc := hd0.trans hbc; have kS0 := (hbc'.cell (p := ⟨g2, i, none⟩) hl2').trans x2; have kS1 := (hbc'.cell (p := ⟨g4, 0, none⟩) hl4').trans x4)
              | fail))
          have z1 : wc.cell? ⟨g1, i, none⟩ = some (.int .i64 x) := (hbc'.cell (p := ⟨g1, i, none⟩) hl1').trans x1
          have HT0 := Lib.hid (ownsRow_below' Ho9.out hbc')
          have HE0 := Lib.hid (ownsRow_below' Ho10.out hbc')
          have Hbc := Lib.hid (Hbr.out.trans (hbc'.mono Hbr.out.size))
          have hsc := Hbc.out.size
          have hsr2 := hbc'.size
          clear hbc hbc'
          go_upto_region 16 with (first
            | (at_builtin; refine wpList_append_own _ rfl (.tmp 55) (.tmp 60) 22 rfl w2.heap.size 3 i0 (.int .i64 0) 1 8 Try.underlying22 hi hz0 hz1 hz2 rfl (by decide) _ _ _ rfl (HT0.out.alloc _) ⟨wc.heap.size, 0, none⟩ 1 1 [.int .i64 x] rfl rfl (cell_one_new _ _ _) (ints_oneCell _ [x]) (by unfold maxLen; omega) (by omega) (by simp; omega) ?_; intro v9a wa hoA hgA _; have hqwa := le_of_alloc hgA; have HR1 := Lib.hid (ho2b_of HE0.out hgA (own_ne HT0.out HE0.out (by decide))); have z2a : wa.cell? ⟨g2, i, none⟩ = some (.slice (some ⟨bf, of, none⟩) f.enc.length cf) := grown_cell kS0 hgA (fun k hk => by have := (HT0.out.lt k hk).1; omega))
            | (at_builtin; refine wpList_append_own _ rfl (.tmp 62) (.tmp 67) 48 rfl w2.heap.size 22 j0 (.slice none 0 0) 1 24 Try.underlying48 hj hy0 hy1 hy2 rfl (by decide) _ _ _ rfl (HR1.out.alloc _) ⟨wa.heap.size, 0, none⟩ 1 1 [.slice (some ⟨bf, of, none⟩) f.enc.length cf] rfl rfl (cell_one_new _ _ _) (slice_oneCell _ _ _) (by unfold maxLen; omega) (by omega) (by simp; omega) ?_; intro v10a wb hoB hgB _))
          have hoT := kept_of hoA hgB (own_ne hoA HR1.out (by decide))
          obtain ⟨gA, cA, rfl⟩ := Joins.ownsRow_form hoT (by omega)
          obtain ⟨a10', c10', rfl, _⟩ := own_form hoB
          have hDl : (ints D.times).length = n := by rw [ints_len, T.times_len]; exact HU.out.2.2.1.symm
          have cN : wb.cell? ⟨gA, n, none⟩ = some (.int .i64 x) := by
            rw [hoT.cellAt n (by omega), List.getElem?_append_right (by omega), hDl, Nat.sub_self]; rfl
          have fN := hoT.frozenAt n
          have z1b : wb.cell? ⟨g1, i, none⟩ = some (.int .i64 x) := grown_cell (grown_cell z1 hgA (fun k hk => by have := (HT0.out.lt k hk).1; omega)) hgB (fun k hk => by have := (HR1.out.lt k hk).1; omega)
          have hBB := (((Hbc.out.alloc (by omega) _).grown hgA (by simp; omega) (fun k hk => (HT0.out.lt k hk).1)).alloc (by omega) _).grown hgB (by simp; omega) (fun k hk => (HR1.out.lt k hk).1)
          have hsetT := (hoT.stored n (.int .i64 (x + 1))).1
          have hgrT := (hoT.stored n (.int .i64 (x + 1))).2
          have hoE := hoB.kept hgrT (own_ne hoB hoT (by decide))
          have hlA := (hoT.lt gA rfl).1
          have hfin : AddR w2 s e true (.slice (some ⟨gA, 0, none⟩) (n + 1) cA) (.slice a10' (n + 1) c10') (.int .i64 ((i + 1 : Nat) : Int)) (wb.setCell ⟨gA, n, none⟩ (.int .i64 (x + 1))) := by
            obtain ⟨h1, h2, h3, h4⟩ := HU.out
            refine ⟨i + 1, n + 1, D.app (.c (x + 1) f .z), D.app (.c x f .z), q, es ++ [.slice (some ⟨bf, of, none⟩) f.enc.length cf], _, a10', cA, c10', rfl, by rw [T.app_assoc]; exact h1, by rw [T.app_cnt, h2]; rfl, by rw [T.app_cnt, ← h3]; rfl, by omega, rfl, rfl, ?_, hoE, HEC.out.snoc Hpf.out.1 Hpf.out.2.1 Hpf.out.2.2, hBB.setCell (p := ⟨gA, n, none⟩) hlA _, .inr ⟨rfl, Hnn.out, by rw [← Hfe.out]; exact HN.out.2.2.2.2⟩, HN.out.2.2.2.1⟩
            have e1 : (ints D.times ++ [Value.int .i64 x]).set n (.int .i64 (x + 1)) = ints (D.app (.c (x + 1) f .z)).times := by
              rw [List.set_append_right _ _ (by omega), hDl, Nat.sub_self, T.times_app]
              simp [ints, T.times]
            rw [← e1]
            exact hsetT
          have Hfin := Lib.hid hfin
          clear hoA hgA hoB hgB hoT hDl hBB hsetT hgrT hoE hfin
          go_wp2_with fail
          go_roundw
          case rel => exact ⟨true, rfl, Hfin.out⟩
          case measure => simp [intOf]; omega
        · have Hcm := Lib.hid hcm
          rw [hcm] at kc
          have hnn : T.nat s (.c 1 e .z) = (D.app (.c x f .z)).app (T.nat q (.c 1 e .z)) := by rw [hnat, T.nat_gt x 1 q .z hcm, T.app_assoc]; rfl
          have Hnn := Lib.hid hnn
          clear hcm hnat hnn Hway
          go_wp2_with fail
          go_region_held3 (fun w' => w'.cell? ⟨g2, i, none⟩ = some (.slice (some ⟨bf, of, none⟩) f.enc.length cf) ∧ w'.cell? ⟨g4, 0, none⟩ = some (.slice (some ⟨be, oe, none⟩) le ce)) (first | go_keep | exact ⟨kS0, kS1⟩)
            ((first
              | (go_at_call 63; (with_reducible refine (kc.out).mono ?_); rintro ee wc ⟨rfl, hbc⟩; have hbc' : Below wr.heap.size wr wc := hd0.trans hbc; have kS0 := (hbc'.cell (p := ⟨g2, i, none⟩) hl2').trans x2; have kS1 := (hbc'.cell (p := ⟨g4, 0, none⟩) hl4').trans x4)
              | fail))
          have z1 : wc.cell? ⟨g1, i, none⟩ = some (.int .i64 x) := (hbc'.cell (p := ⟨g1, i, none⟩) hl1').trans x1
          have HT0 := Lib.hid (ownsRow_below' Ho9.out hbc')
          have HE0 := Lib.hid (ownsRow_below' Ho10.out hbc')
          have Hbc := Lib.hid (Hbr.out.trans (hbc'.mono Hbr.out.size))
          have hsc := Hbc.out.size
          have hsr2 := hbc'.size
          clear hbc hbc'
          go_wp2_with (first
            | (at_builtin; refine wpList_append_own _ rfl (.tmp 55) (.tmp 60) 22 rfl w2.heap.size 3 i0 (.int .i64 0) 1 8 Try.underlying22 hi hz0 hz1 hz2 rfl (by decide) _ _ _ rfl (HT0.out.alloc _) ⟨wc.heap.size, 0, none⟩ 1 1 [.int .i64 x] rfl rfl (cell_one_new _ _ _) (ints_oneCell _ [x]) (by unfold maxLen; omega) (by omega) (by simp; omega) ?_; intro v9a wa hoA hgA _; have hqwa := le_of_alloc hgA; have HR1 := Lib.hid (ho2b_of HE0.out hgA (own_ne HT0.out HE0.out (by decide))); have z2a : wa.cell? ⟨g2, i, none⟩ = some (.slice (some ⟨bf, of, none⟩) f.enc.length cf) := grown_cell kS0 hgA (fun k hk => by have := (HT0.out.lt k hk).1; omega))
            | (at_builtin; refine wpList_append_own _ rfl (.tmp 62) (.tmp 67) 48 rfl w2.heap.size 22 j0 (.slice none 0 0) 1 24 Try.underlying48 hj hy0 hy1 hy2 rfl (by decide) _ _ _ rfl (HR1.out.alloc _) ⟨wa.heap.size, 0, none⟩ 1 1 [.slice (some ⟨bf, of, none⟩) f.enc.length cf] rfl rfl (cell_one_new _ _ _) (slice_oneCell _ _ _) (by unfold maxLen; omega) (by omega) (by simp; omega) ?_; intro v10a wb hoB hgB _))
          obtain ⟨a9', c9', rfl, _⟩ := own_form hoA
          obtain ⟨a10', c10', rfl, _⟩ := own_form hoB
          have hfin : AddR w2 s e false (.slice a9' (n + 1) c9') (.slice a10' (n + 1) c10') (.int .i64 ((i + 1 : Nat) : Int)) wb := by
            obtain ⟨h1, h2, h3, h4⟩ := HU.out
            refine ⟨i + 1, n + 1, D.app (.c x f .z), D.app (.c x f .z), q, es ++ [.slice (some ⟨bf, of, none⟩) f.enc.length cf], a9', a10', c9', c10', rfl, by rw [T.app_assoc]; exact h1, by rw [T.app_cnt, h2]; rfl, by rw [T.app_cnt, ← h3]; rfl, by omega, rfl, rfl, ?_, hoB, HEC.out.snoc Hpf.out.1 Hpf.out.2.1 Hpf.out.2.2, (((Hbc.out.alloc (by omega) _).grown hgA (by simp; omega) (fun k hk => (HT0.out.lt k hk).1)).alloc (by omega) _).grown hgB (by simp; omega) (fun k hk => (HR1.out.lt k hk).1), ?_, HN.out.2.2.2.1⟩
            · rw [T.times_app]
              have := kept_of hoA hgB (own_ne hoA HR1.out (by decide))
              simpa [ints, T.times] using this
            · exact .inl ⟨rfl, rfl, Hnn.out⟩
          have Hfin := Lib.hid hfin
          clear hoA hgA hoB hgB hfin

          go_roundw
          case rel => exact ⟨false, rfl, Hfin.out⟩
          case measure => simp [intOf]; omega
      · subst hdn
        have hcm : f.cmp e = -1 := T.ok_c.1 hok
        have Hcm := Lib.hid hcm
        rw [hcm] at kc
        have hnn : T.nat s (.c 1 e .z) = (D.app (.c x f .z)).app q := by rw [hnat, T.app_assoc]; rfl
        have Hnn := Lib.hid hnn
        clear hcm hnat hnn Hway hok
        go_wp2_with fail
        go_region_held3 (fun w' => w'.cell? ⟨g2, i, none⟩ = some (.slice (some ⟨bf, of, none⟩) f.enc.length cf) ∧ w'.cell? ⟨g4, 0, none⟩ = some (.slice (some ⟨be, oe, none⟩) le ce)) (first | go_keep | exact ⟨kS0, kS1⟩)
          ((first
            | (go_at_call 63; (with_reducible refine (kc.out).mono ?_); rintro ee wc ⟨rfl, hbc⟩; have hbc' : Below wr.heap.size wr wc := hd0.trans hbc; have kS0 := (hbc'.cell (p := ⟨g2, i, none⟩) hl2').trans x2; have kS1 := (hbc'.cell (p := ⟨g4, 0, none⟩) hl4').trans x4)
            | fail))
        have z1 : wc.cell? ⟨g1, i, none⟩ = some (.int .i64 x) := (hbc'.cell (p := ⟨g1, i, none⟩) hl1').trans x1
        have HT0 := Lib.hid (ownsRow_below' Ho9.out hbc')
        have HE0 := Lib.hid (ownsRow_below' Ho10.out hbc')
        have Hbc := Lib.hid (Hbr.out.trans (hbc'.mono Hbr.out.size))
        have hsc := Hbc.out.size
        have hsr2 := hbc'.size
        clear hbc hbc'
        go_wp2_with (first
          | (at_builtin; refine wpList_append_own _ rfl (.tmp 55) (.tmp 60) 22 rfl w2.heap.size 3 i0 (.int .i64 0) 1 8 Try.underlying22 hi hz0 hz1 hz2 rfl (by decide) _ _ _ rfl (HT0.out.alloc _) ⟨wc.heap.size, 0, none⟩ 1 1 [.int .i64 x] rfl rfl (cell_one_new _ _ _) (ints_oneCell _ [x]) (by unfold maxLen; omega) (by omega) (by simp; omega) ?_; intro v9a wa hoA hgA _; have hqwa := le_of_alloc hgA; have HR1 := Lib.hid (ho2b_of HE0.out hgA (own_ne HT0.out HE0.out (by decide))); have z2a : wa.cell? ⟨g2, i, none⟩ = some (.slice (some ⟨bf, of, none⟩) f.enc.length cf) := grown_cell kS0 hgA (fun k hk => by have := (HT0.out.lt k hk).1; omega))
          | (at_builtin; refine wpList_append_own _ rfl (.tmp 62) (.tmp 67) 48 rfl w2.heap.size 22 j0 (.slice none 0 0) 1 24 Try.underlying48 hj hy0 hy1 hy2 rfl (by decide) _ _ _ rfl (HR1.out.alloc _) ⟨wa.heap.size, 0, none⟩ 1 1 [.slice (some ⟨bf, of, none⟩) f.enc.length cf] rfl rfl (cell_one_new _ _ _) (slice_oneCell _ _ _) (by unfold maxLen; omega) (by omega) (by simp; omega) ?_; intro v10a wb hoB hgB _))
        obtain ⟨a9', c9', rfl, _⟩ := own_form hoA
        obtain ⟨a10', c10', rfl, _⟩ := own_form hoB
        have hfin : AddR w2 s e true (.slice a9' (n + 1) c9') (.slice a10' (n + 1) c10') (.int .i64 ((i + 1 : Nat) : Int)) wb := by
          obtain ⟨h1, h2, h3, h4⟩ := HU.out
          refine ⟨i + 1, n + 1, D.app (.c x f .z), d.app (.c x f .z), q, es ++ [.slice (some ⟨bf, of, none⟩) f.enc.length cf], a9', a10', c9', c10', rfl, by rw [T.app_assoc]; exact h1, by rw [T.app_cnt, h2]; rfl, by rw [T.app_cnt, ← h3]; rfl, by omega, rfl, rfl, ?_, hoB, HEC.out.snoc Hpf.out.1 Hpf.out.2.1 Hpf.out.2.2, (((Hbc.out.alloc (by omega) _).grown hgA (by simp; omega) (fun k hk => (HT0.out.lt k hk).1)).alloc (by omega) _).grown hgB (by simp; omega) (fun k hk => (HR1.out.lt k hk).1), ?_, HN.out.2.2.2.1⟩
          · rw [T.times_app]
            have := kept_of hoA hgB (own_ne hoA HR1.out (by decide))
            simpa [ints, T.times] using this
          · exact .inr ⟨rfl, Hnn.out, T.ok_trans HN.out.2.2.2.2 Hcm.out⟩
        have Hfin := Lib.hid hfin
        clear hoA hgA hoB hgB hfin

        go_roundw
        case rel => exact ⟨true, rfl, Hfin.out⟩
        case measure => simp [intOf]; omega
    · have hu : u = .z := T.cnt_zero (by omega)
      subst hu
      have hik : i = K := by have := hci; simp [T.cnt] at this; omega
      have hi1000 : i ≤ 1000 := by omega
      rcases hway with ⟨hdn, hDd, hnat⟩ | ⟨hdn, hnat, hok⟩
      · subst hdn
        subst hDd
        rw [T.z_nat] at hnat
        have x4 : wr.cell? ⟨g4, 0, none⟩ = some (.slice (some ⟨be, oe, none⟩) le ce) := (hbr.cell (p := ⟨g4, 0, none⟩) hl4).trans y4
        have Hnat := Lib.hid hnat
        have H3 := Lib.hid h3
        clear h1 h2 h3 hci ho9 ho10 hEC hbr hnat hik
        go_wp2_with (first
          | (at_builtin; refine wpList_append_own _ rfl (.tmp 83) (.tmp 84) 22 rfl w2.heap.size 3 i0 (.int .i64 0) 1 8 Try.underlying22 hi hz0 hz1 hz2 rfl (by decide) _ _ _ rfl (Ho9.out.alloc _) ⟨wr.heap.size, 0, none⟩ 1 1 [.int .i64 1] rfl rfl (cell_one_new _ _ _) (ints_oneCell _ [1]) (by unfold maxLen; omega) (by omega) (by simp; omega) ?_; intro v9a wa hoA hgA _; have hqwa := le_of_alloc hgA; have HR1 := Lib.hid (ho2b_of Ho10.out hgA (own_ne Ho9.out Ho10.out (by decide))); have x4a : wa.cell? ⟨g4, 0, none⟩ = some (.slice (some ⟨be, oe, none⟩) le ce) := grown_cell x4 hgA (fun k hk => by have := (Ho9.out.lt k hk).1; omega))
          | (at_builtin; refine wpList_append_own _ rfl (.tmp 86) (.tmp 90) 48 rfl w2.heap.size 22 j0 (.slice none 0 0) 1 24 Try.underlying48 hj hy0 hy1 hy2 rfl (by decide) _ _ _ rfl (HR1.out.alloc _) ⟨wa.heap.size, 0, none⟩ 1 1 [.slice (some ⟨be, oe, none⟩) le ce] rfl rfl (cell_one_new _ _ _) (slice_oneCell _ _ _) (by unfold maxLen; omega) (by omega) (by simp; omega) ?_; intro v10a wb hoB hgB _; have hoT := kept_of hoA hgB (own_ne hoA HR1.out (by decide)); obtain ⟨a9', c9', rfl, _⟩ := own_form hoT; obtain ⟨a10', c10', rfl, _⟩ := own_form hoB; have hBB := (((Hbr.out.alloc (by omega) _).grown hgA (by simp; omega) (fun k hk => (Ho9.out.lt k hk).1)).alloc (by omega) _).grown hgB (by simp; omega) (fun k hk => (HR1.out.lt k hk).1); have hEe : EC w2 (D.app (.c 1 e .z)) (es ++ [.slice (some ⟨be, oe, none⟩) le ce]) := (by have h7 := HEC.out.snoc (n := 1) Hpe.out.1 Hpe.out.2.1 Hpe.out.2.2; rw [← Hle.out] at h7; exact h7); have hcn : n + 1 = (D.app (.c 1 e .z)).cnt := (by rw [T.app_cnt, ← H3.out]; rfl); have hTs : wb.ownsRow w2.heap.size 3 1 (.slice a9' (n + 1) c9') (n + 1) (ints (D.app (.c 1 e .z)).times) := (by rw [T.times_app]; simpa [ints, T.times] using hoT); have km := Lib.hid (l1Make_any a9' a10' (n + 1) c9' c10' (D.app (.c 1 e .z)) wb (by rw [← Hnat.out]; exact Nat.le_trans Hnl.out (by decide)) (Ex.of_own hoB (hEe.below hBB) hcn) (Sl.of_own hTs)); have Hbb := Lib.hid hBB; clear hoA hgA hoB hgB hoT hBB hEe hTs hcn))
        refine (km.out).mono ?_
        rintro ee w5 ⟨a5, c5, rfl, ho5, hb5⟩
        have hp : RowPost w (T.nat s (.c 1 e .z)).enc (.returned (.slice a5 (D.app (.c 1 e .z)).enc.length c5)) w5 := by
          rw [Hnat.out]
          exact ⟨a5, c5, rfl, Joins.ownsRow_le ho5 (by have := Hb2.out.size; have := Hbb.out.size; omega), (Hb2.out.trans (Hbb.out.mono Hb2.out.size)).trans (hb5.mono (by have := Hb2.out.size; have := Hbb.out.size; omega))⟩
        have Hp := Lib.hid hp
        clear ho5 hb5 hp
        go_wp2_with fail
        go_ret
        exact Hp.out
      · subst hdn
        rw [T.app_z] at hnat
        have km := Lib.hid (l1Make_any a9 a10 n c9 c10 D wr (by rw [← hnat]; exact Nat.le_trans Hnl.out (by decide)) (Ex.of_own ho10 (hEC.below hbr) h3) (Sl.of_own ho9))
        have Hnat := Lib.hid hnat
        clear h1 h2 h3 hci ho9 ho10 hEC hbr hnat hik hok
        go_wp2_with fail
        refine (km.out).mono ?_
        rintro ee w5 ⟨a5, c5, rfl, ho5, hb5⟩
        have hp : RowPost w (T.nat s (.c 1 e .z)).enc (.returned (.slice a5 D.enc.length c5)) w5 := by
          rw [Hnat.out]
          exact ⟨a5, c5, rfl, Joins.ownsRow_le ho5 (by have := Hb2.out.size; have := Hbr.out.size; omega), (Hb2.out.trans (Hbr.out.mono Hb2.out.size)).trans (hb5.mono (by have := Hb2.out.size; have := Hbr.out.size; omega))⟩
        have Hp := Lib.hid hp
        clear ho5 hb5 hp
        go_wp2_with fail
        go_ret
        exact Hp.out

end Go.Proofs.Ytigkceenhocidaa

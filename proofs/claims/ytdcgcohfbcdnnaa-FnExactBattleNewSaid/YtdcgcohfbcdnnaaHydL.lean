/- The model's l5Cut and HydraCut. -/
import Derived.Test.YtdcgcohfbcdnnaaHydK
import Derived.Test.YtdcgcohfbcdnnaaHydB
import Derived.Test.YtdcgcohfbcdnnaaPost
import Derived.Deep.CutBlock
import Derived.Deep.DeepCutAuto
namespace Go.Proofs.Ytdcgcohfbcdnnaa
set_option maxRecDepth 100000
open Go.RowKit

/-- Trees, each in old memory or in a row of numbers. -/
def HX (w : World) (B : Nat) : H → List Value → Prop
  | .z, es => es = []
  | .c k r, es => ∃ b off cap es', es = .slice (some ⟨b, off, none⟩) k.enc.length cap :: es' ∧ At w b off k.enc ∧ k.enc.length ≤ cap ∧ cap ≤ maxLen ∧ (b < B ∨ ∃ cs fr, w.heap[b]? = some (.cells cs 3 fr)) ∧ HX w B r es'

theorem HX.hc {w : World} {B : Nat} {t : H} {es : List Value} (h : HX w B t es) : HC w t es := by
  induction t generalizing es with
  | z => exact h
  | c k r _ ih =>
    obtain ⟨b, off, cap, es', rfl, h1, h2, h3, _, h5⟩ := h
    exact ⟨b, off, cap, es', rfl, h1, h2, h3, ih h5⟩
theorem HX.snoc {w : World} {B : Nat} {t : H} {es : List Value} {e : H} {b off cap : Nat} (h : HX w B t es) (ha : At w b off e.enc) (hc : e.enc.length ≤ cap) (hm : cap ≤ maxLen) (ht : b < B ∨ ∃ cs fr, w.heap[b]? = some (.cells cs 3 fr)) :
    HX w B (t.app (.c e .z)) (es ++ [.slice (some ⟨b, off, none⟩) e.enc.length cap]) := by
  induction t generalizing es with
  | z => simp only [HX] at h; subst h; exact ⟨b, off, cap, [], rfl, ha, hc, hm, ht, rfl⟩
  | c f r _ ih =>
    obtain ⟨b', off', cap', es', rfl, h1, h2, h3, h4, h5⟩ := h
    exact ⟨b', off', cap', _, rfl, h1, h2, h3, h4, ih h5⟩
/-- They stay behind whatever changes a row of rows that is new. -/
theorem HX.kept {w w' : World} {B : Nat} {row : Option Nat} {t : H} {es : List Value} (h : HX w B t es) (hg : w.grownBy w' row) (hr : ∀ k, row = some k → B ≤ k ∧ ∃ cs fr, w.heap[k]? = some (.cells cs 22 fr)) : HX w' B t es := by
  induction t generalizing es with
  | z => exact h
  | c f r _ ih =>
    obtain ⟨b, off, cap, es', rfl, h1, h2, h3, h4, h5⟩ := h
    have hne : row ≠ some b := by
      intro he
      obtain ⟨q1, cs, fr, q2⟩ := hr b he
      rcases h4 with h4 | ⟨cs', fr', h4⟩
      · omega
      · rw [q2] at h4; simp at h4
    refine ⟨b, off, cap, es', rfl, ?_, h2, h3, ?_, ih h5⟩
    · intro j hj
      exact hg.cell (a := ⟨b, off + j, none⟩) (h1 j hj) (fun e => hne e.symm)
    · rcases h4 with h4 | ⟨cs', fr', h4⟩
      · exact .inl h4
      · exact .inr ⟨cs', fr', by rw [hg.block b (Array.getElem?_eq_some_iff.1 h4).1 (fun e => hne e.symm)]; exact h4⟩
theorem own_tagX {w : World} {B e n size : Nat} {v : Value} {xs : List Value} (h : w.ownsRow B e size v n xs) : ∀ k, v.ownBlock = some k → B ≤ k ∧ ∃ cs fr, w.heap[k]? = some (.cells cs e fr) := by
  intro k hk
  rcases h.2 with ⟨rfl, _⟩ | ⟨g, cap, cur, rfl, hb, hg, _⟩
  · simp [Value.ownBlock] at hk
  · simp [Value.ownBlock] at hk
    subst hk
    exact ⟨hb, _, _, hg⟩

theorem hx_row {w : World} {B gx cx : Nat} {t k : H} {es : List Value} (h : HX w B t es) (ho : w.ownsRow B 3 1 (.slice (some ⟨gx, 0, none⟩) k.enc.length cx) k.enc.length (ints k.enc)) : HX w B (t.app (.c k .z)) (es ++ [.slice (some ⟨gx, 0, none⟩) k.enc.length cx]) := by
  obtain ⟨q1, q2, q3, q4⟩ := Sl.of_own ho
  obtain ⟨b, o, h1, h2⟩ := q4 (by rw [H.enc_len]; omega)
  cases h1
  exact h.snoc h2 q2 q3 (.inr (own_tagX ho gx rfl).2)

def CutRel (w : World) (f : H) (h0 : Int) (n : Nat) (v1 v9 v10 v11 : Value) (wr : World) : Prop :=
  ∃ (i m : Nat) (h : Int) (ow : Bool) (D d u : H) (es : List Value) (a9 : Option Addr) (c9 : Nat), v11 = .int .i64 i ∧ v1 = .int .i64 h ∧ v10 = .bool ow ∧ v9 = .slice a9 m c9 ∧ d.app u = f ∧ d.cnt = i ∧ m = D.cnt ∧ m ≤ 9 * i ∧ -(2000 + 60 * (i : Int)) ≤ h ∧ h ≤ 1000 ∧
    wr.ownsRow w.heap.size 22 1 v9 m es ∧ HX wr w.heap.size D es ∧ Below w.heap.size w wr ∧ H.cut n f h0 = (D.app (H.cut n u h).1, ow || (H.cut n u h).2)

/-- The copies of a branch. -/
def CopRel (w : World) (D k : H) (n m0 gx Lx cx : Nat) (near : Bool) (v9 v15 : Value) (wr : World) : Prop :=
  ∃ (j m : Nat) (es : List Value) (a9 : Option Addr) (c9 : Nat), 1 ≤ j ∧ j ≤ n ∧ (near = false → j = 1) ∧ v15 = .int .i64 j ∧ v9 = .slice a9 m c9 ∧ m = m0 + j ∧ wr.ownsRow w.heap.size 22 1 v9 m es ∧ HX wr w.heap.size (D.app (H.rep j k .z)) es ∧
    wr.ownsRow w.heap.size 3 1 (.slice (some ⟨gx, 0, none⟩) Lx cx) Lx (ints k.enc) ∧ Below w.heap.size w wr

set_option maxHeartbeats 4000000 in
theorem l5Cut_any (N : Nat) : ∀ (b off len cap n : Nat) (f : H) (h0 : Int) (w : World), f.body.length < N → f.enc.length = len → len ≤ 60 → len ≤ cap → cap ≤ maxLen → At w b off f.enc → 1 ≤ n → n ≤ 9 → -1000 ≤ h0 → h0 ≤ 1000 →
    Calls Try.prog 50 #[.slice (some ⟨b, off, none⟩) len cap, .int .i64 h0, .int .i64 n] w (OrdOkPost w (H.cut n f h0).1.enc (H.cut n f h0).2) := by
  induction N with
  | zero => intro b off len cap n f h0 w h; omega
  | succ N ih =>
    intro b off len cap n f h0 w hN hl hb hlc hcm hat hn1 hn9 hh1 hh2
    obtain ⟨j0, hj, hy0, hy1, hy2⟩ := info_parts info_ints
    have k1 := Lib.hid (l5Branches_any b off len cap f w hl hb hlc hcm hat)
    have hel := H.enc_len f
    have hct := H.cnt_le f
    obtain ⟨K, hK⟩ : ∃ K, K = f.cnt := ⟨_, rfl⟩
    have hK60 : K ≤ 60 := by omega
    have hfb : f.body.length ≤ 60 := by omega
    rw [← hK] at k1
    obtain ⟨rf, hrf⟩ : ∃ rf, rf = (H.cut n f h0).1.enc := ⟨_, rfl⟩
    obtain ⟨ro, hro⟩ : ∃ ro, ro = (H.cut n f h0).2 := ⟨_, rfl⟩
    rw [← hrf, ← hro]
    have hcl := (H.cut_len n hn1 f h0).1
    have hcl2 : (H.cut n f h0).1.enc.length ≤ 1000 := by
      have h3 := Nat.mul_le_mul hn9 hfb
      rw [H.enc_len]
      omega
    have Hcl := Lib.hid hcl2
    have Hrf := Lib.hid hrf
    have Hro := Lib.hid hro
    have IH := Lib.hid ih
    have HN := Lib.hid hN
    have HK := Lib.hid hK
    have Hfb := Lib.hid hfb
    clear ih hN hK hfb hl hel hct hrf hro hat hcl hcl2
    go_enter Try.func50, Try.ntmps50
    go_wp2_with fail
    refine (k1.out).mono ?_
    rintro ee w1 ⟨g, c, es1, rfl, ho1, hE, hb1⟩
    have Ho1 := Lib.hid ho1
    have HE := Lib.hid (hE.below hb1)
    have Hb1 := Lib.hid hb1
    have hgl : g < w1.heap.size := (ho1.lt g rfl).2
    have hst : CutRel w1 f h0 n (.int .i64 h0) (.slice (some ⟨w1.heap.size, 0, none⟩) 0 0) (.bool false) (.int .i64 ((0 : Nat) : Int)) (w1.alloc (.cells #[] 22)) :=
      ⟨0, 0, h0, false, .z, .z, f, [], _, 0, rfl, rfl, rfl, rfl, rfl, rfl, rfl, Nat.zero_le _, by omega, hh2, World.ownsRow_lit w1 #[] 0 (Nat.le_refl _) (by simp [maxLen]) rfl, rfl, (Below.refl _ _).alloc (Nat.le_refl _) _, by simp [H.app]⟩
    have Hst := Lib.hid hst
    clear ho1 hE hb1 hst hh1 hh2
    go_wp2_with fail
    go_loopw [1, 9, 10, 11] (fun v1 v9 v10 v11 wr => CutRel w1 f h0 n v1 v9 v10 v11 wr) (fun _ _ _ v11 _ => K - (intOf v11).toNat)
    case atStart => exact Hst.out
    case round =>
      obtain ⟨i, m, h, ow, D, d, u, es, a9, c9, rfl, rfl, rfl, rfl, h1, h2, h3, hm9, hh1, hh2, ho, hX, hbr, hcut⟩ := hrel
      have hci : K = i + u.cnt := by rw [HK.out, ← h1, H.app_cnt, h2]
      have Ho := Lib.hid ho
      have HXr := Lib.hid hX
      have Hbr := Lib.hid hbr
      have hsr := hbr.size
      by_cases hlt : i < K
      · obtain ⟨k, r, rfl⟩ : ∃ k r, u = .c k r := H.cnt_pos (by omega)
        obtain ⟨bk, ok, ck, x1, x2, x3, x4⟩ := HE.out.pick h1 h2
        have hbody : d.body.length + (k.body.length + 1 + r.body.length) = f.body.length := by rw [← h1, H.app_body, List.length_append, H.body_c, List.length_append, H.enc_len]
        have hel := H.enc_len k
        have hkl : k.enc.length ≤ 60 := by have := Hfb.out; omega
        have hkb : bk < w1.heap.size := x2.lt (H.enc_ne k)
        have y1 : wr.cell? ⟨g, i, none⟩ = some (.slice (some ⟨bk, ok, none⟩) k.enc.length ck) := (hbr.cell (p := ⟨g, i, none⟩) hgl).trans ((Ho1.out.cellAt i (by omega)).trans x1)
        have hatr : At wr bk ok k.enc := x2.below hbr hkb
        have kh := Lib.hid (l5Heads_any (some ⟨bk, ok, none⟩) k.enc.length ck k.enc wr ⟨rfl, x3, x4, fun _ => ⟨bk, ok, rfl, hatr⟩⟩ (by omega))
        have hp1 := H.heads_pos k
        have hp2 := H.heads_le k
        have hkz : k.enc.length = 1 ↔ k = .z := by
          constructor
          · intro h9; cases k with
            | z => rfl
            | c a b => rw [H.enc_len, H.body_c, List.length_append, H.enc_len] at h9; omega
          · intro h9; rw [h9]; rfl
        have hpast := fun hq => H.cut_past (n := n) (k := k) (r := r) (h := h) hq
        have hin := fun a b hq => H.cut_in (n := n) (k := k) (r := r) (h := h) a b hq
        have hhd := fun (hq : k = .z) a b => H.cut_head (n := n) (r := r) (h := h) a b
        obtain ⟨q, hq⟩ : ∃ q : Nat, q = H.noughts k.enc := ⟨_, rfl⟩
        have hqh : H.heads k = (q : Int) := by rw [hq]; rfl
        rw [← hq] at kh
        rw [hqh] at hp1 hp2 hpast hin
        obtain ⟨L, hL⟩ : ∃ L, L = k.enc.length := ⟨_, rfl⟩
        rw [← hL] at kh hkl hp2 y1 x3 hkz
        have HLk := Lib.hid hL
        have Hxa := Lib.hid x2
        have Hx1 := Lib.hid h1
        have Hx2 := Lib.hid h2
        have Hx3 := Lib.hid h3
        have Hcut := Lib.hid hcut
        have Hhd := Lib.hid hhd
        have Hqh := Lib.hid hqh
        have Hkz := Lib.hid hkz
        have hkr : k.body.length ≤ 60 := by omega
        have HNk := Lib.hid (show k.body.length < N by have := HN.out; omega)
        clear h1 h2 h3 hci hbody hel x1 x2 hL hq hqh hcut hhd hkz ho hX hbr hatr
        by_cases hA : h < 0 ∨ (q : Int) ≤ h
        · have hcp := hpast hA
          have Hcp := Lib.hid hcp
          have HfinA := Lib.hid (fun (a9' : Option Addr) (c9' : Nat) (w3 : World) (ho3 : w3.ownsRow w1.heap.size 22 1 (.slice a9' (m + 1) c9') (m + 1) (es ++ [.slice (some ⟨bk, ok, none⟩) L ck])) (hg3 : (wr.alloc (.cells #[.slice (some ⟨bk, ok, none⟩) L ck] 22)).grownBy w3 (Value.slice a9 m c9).ownBlock) =>
            (show CutRel w1 f h0 n (.int .i64 (h - (q : Int))) (.slice a9' (m + 1) c9') (.bool ow) (.int .i64 ((i + 1 : Nat) : Int)) w3 from by
              have hga : wr.grownBy (wr.alloc (.cells #[.slice (some ⟨bk, ok, none⟩) L ck] 22)) none := World.grownBy_alloc wr _ none
              have hX3 := (HXr.out.kept hga (fun k hk => by cases hk)).kept hg3 (fun k hk => own_tagX (Ho.out.alloc _) k hk)
              have hb3 := (Hbr.out.alloc (by omega) _).grown hg3 (by simp; omega) (fun k hk => (Ho.out.lt k hk).1)
              have hat3 : At w3 bk ok k.enc := Hxa.out.below hb3 hkb
              have hs3 := hX3.snoc (e := k) (cap := ck) hat3 (by rw [← HLk.out]; exact x3) x4 (.inl hkb)
              rw [← HLk.out] at hs3
              refine ⟨i + 1, m + 1, h - (q : Int), ow, D.app (.c k .z), d.app (.c k .z), r, _, a9', c9', rfl, rfl, rfl, rfl, by rw [H.app_assoc]; exact Hx1.out, by rw [H.app_cnt, Hx2.out]; rfl, by rw [H.app_cnt, ← Hx3.out]; rfl, by omega, by omega, by omega, ho3, hs3, hb3, ?_⟩
              rw [Hcut.out, Hcp.out, H.app_assoc]
              rfl))
          have hb0 : (h < 0) ∨ ¬ (h < 0) ∧ (q : Int) ≤ h := by omega
          clear hpast hin hcp
          rcases hb0 with hb0 | ⟨hb0, hb00⟩
          all_goals
            go_wp2_with fail
            refine (kh.out).mono ?_
            rintro ee w' ⟨rfl, rfl⟩
            go_wp2_with (first
              | (at_builtin; refine wpList_append_own _ rfl (.tmp 37) (.tmp 42) 59 rfl w1.heap.size 22 j0 (.slice none 0 0) 1 24 Try.underlying59 hj hy0 hy1 hy2 rfl (by decide) _ _ _ rfl (Ho.out.alloc _) ⟨wr.heap.size, 0, none⟩ 1 1 [.slice (some ⟨bk, ok, none⟩) L ck] rfl rfl (cell_one_new _ _ _) (slice_oneCell _ _ _) (by unfold maxLen; omega) (by omega) (by simp; omega) ?_; intro v9' w3 ho3 hg3 _))
            obtain ⟨a9', c9', rfl, _⟩ := own_form ho3
            have Hfin := Lib.hid (HfinA.out a9' c9' w3 ho3 hg3)
            clear ho3 hg3
            go_wp2_with fail
            go_roundw
            case rel => exact Hfin.out
            case measure => simp [intOf]; omega
        · have hh0 : ¬ h < 0 := by omega
          have hh00 : ¬ (q : Int) ≤ h := by omega
          by_cases hkz0 : k = .z
          · have hL1 : L = 1 := Hkz.out.2 hkz0
            subst hL1
            have hfin : CutRel w1 f h0 n (.int .i64 (-1)) (.slice a9 m c9) (.bool true) (.int .i64 ((i + 1 : Nat) : Int)) wr := by
              have e1 := Hcut.out
              rw [hkz0, Hhd.out hkz0 (by omega) (by have := Hqh.out; rw [hkz0] at this; omega)] at e1
              refine ⟨i + 1, m, -1, true, D, d.app (.c k .z), r, es, a9, c9, rfl, rfl, rfl, rfl, by rw [H.app_assoc]; exact Hx1.out, by rw [H.app_cnt, Hx2.out]; rfl, Hx3.out, by omega, by omega, by omega, Ho.out, HXr.out, Hbr.out, ?_⟩
              rw [e1, H.cut_neg n r (-1) (by omega)]
              simp
            have Hfin := Lib.hid hfin
            clear hpast hin hfin hkz0
            go_wp2_with fail
            refine (kh.out).mono ?_
            rintro ee w' ⟨rfl, rfl⟩
            go_wp2_with fail
            go_roundw
            case rel => exact Hfin.out
            case measure => simp [intOf]; omega
          · have hcp := hin (by omega) (by omega) hkz0
            have hL1 : ¬ L = 1 := fun e => hkz0 (Hkz.out.1 e)
            have hLi : ((L : Int) == 1) = false := beq_eq_false_iff_ne.2 (by omega)
            have hatr := Hxa.out.below Hbr.out hkb
            have kc := Lib.hid (IH.out bk ok L ck n k h wr HNk.out HLk.out.symm hkl x3 x4 hatr hn1 hn9 (by omega) hh2)
            obtain ⟨k', hk'⟩ : ∃ k', k' = (H.cut n k h).1 := ⟨_, rfl⟩
            have hxl : (H.cut n k h).1.enc.length ≤ 1000 := by
              have h3 := (H.cut_len n hn1 k h).1
              have h4 := Nat.mul_le_mul hn9 hkr
              rw [H.enc_len]
              omega
            unfold OrdOkPost at kc
            rw [← hk'] at kc hcp hxl
            have hxp : 1 ≤ k'.enc.length := by rw [H.enc_len]; omega
            obtain ⟨Lx, hLx⟩ : ∃ Lx, Lx = k'.enc.length := ⟨_, rfl⟩
            rw [← hLx] at kc hxl hxp
            have HLx := Lib.hid hLx
            cases hnear : (H.cut n k h).2 with
            | true =>
              rw [hnear] at kc hcp
              have Hcp := Lib.hid hcp
              clear hpast hin hcp hkz0 hatr hk' hLx hnear
              go_wp2_with fail
              refine (kh.out).mono ?_
              rintro ee w' ⟨rfl, rfl⟩
              go_wp2_with fail
              refine (kc.out).mono ?_
              rintro ee w2 ⟨a8, c8, rfl, ho8, hb8⟩
              obtain ⟨g8, c8', hv8⟩ := Joins.ownsRow_form ho8 (by omega)
              simp only [Value.slice.injEq, true_and] at hv8
              obtain ⟨rfl, rfl⟩ := hv8
              have Ho2 := Lib.hid (ownsRow_below' Ho.out hb8)
              have HX2 := Lib.hid (HXr.out.kept (row := none) ⟨hb8.os, hb8.tape, hb8.output, hb8.size, fun k hk _ => hb8.block k hk⟩ (fun k hk => by cases hk))
              have Hb2 := Lib.hid (Hbr.out.trans (hb8.mono Hbr.out.size))
              have hs2 := Hb2.out.size
              have H8 := Lib.hid (Joins.ownsRow_le ho8 hsr)
              clear ho8 hb8
              go_wp2_with (first
                | (at_builtin; refine wpList_append_own _ rfl (.tmp 63) (.tmp 65) 59 rfl w1.heap.size 22 j0 (.slice none 0 0) 1 24 Try.underlying59 hj hy0 hy1 hy2 rfl (by decide) _ _ _ rfl (Ho2.out.alloc _) ⟨w2.heap.size, 0, none⟩ 1 1 [.slice (some ⟨g8, 0, none⟩) Lx c8] rfl rfl (cell_one_new _ _ _) (slice_oneCell _ _ _) (by unfold maxLen; omega) (by omega) (by simp; omega) ?_; intro v9' w3 ho3 hg3 _))
              obtain ⟨a9', c9', rfl, _⟩ := own_form ho3
              have hst : CopRel w1 D k' n m g8 Lx c8 true (.slice a9' (m + 1) c9') (.int .i64 ((1 : Nat) : Int)) w3 := by
                have h93 := (H8.out.alloc (.cells #[.slice (some ⟨g8, 0, none⟩) Lx c8] 22)).kept hg3 (own_ne H8.out Ho2.out (by decide))
                have hs9 := (HX2.out.kept (World.grownBy_alloc w2 (.cells #[.slice (some ⟨g8, 0, none⟩) Lx c8] 22) none) (fun k hk => by cases hk)).kept hg3 (fun k hk => own_tagX (Ho2.out.alloc _) k hk)
                exact ⟨1, m + 1, _, a9', c9', Nat.le_refl _, hn1, fun _ => rfl, rfl, rfl, rfl, ho3, HLx.out ▸ hx_row hs9 (HLx.out ▸ h93), h93, (Hb2.out.alloc (by omega) _).grown hg3 (by simp; omega) (fun k hk => (Ho2.out.lt k hk).1)⟩
              have Hst2 := Lib.hid hst
              clear ho3 hg3 hst
              go_loopw [9, 15] (fun v9 v15 wi => CopRel w1 D k' n m g8 Lx c8 true v9 v15 wi) (fun _ v15 _ => n - (intOf v15).toNat)
              case atStart => exact Hst2.out
              case round =>
                obtain ⟨j, mj, es, a9, c9, hj1, hjn, hjf, rfl, rfl, hmj, hoj, hXj, h8j, hbj⟩ := hrel
                have Hoj := Lib.hid hoj
                have HXj := Lib.hid hXj
                have H8j := Lib.hid h8j
                have Hbj := Lib.hid hbj
                have hsj := hbj.size
                clear hoj hXj h8j hbj
                by_cases hjl : j < n
                · go_wp2_with (first
                    | (at_builtin; refine wpList_append_own _ rfl (.tmp 75) (.tmp 77) 59 rfl w1.heap.size 22 j0 (.slice none 0 0) 1 24 Try.underlying59 hj hy0 hy1 hy2 rfl (by decide) _ _ _ rfl (Hoj.out.alloc _) ⟨wr.heap.size, 0, none⟩ 1 1 [.slice (some ⟨g8, 0, none⟩) Lx c8] rfl rfl (cell_one_new _ _ _) (slice_oneCell _ _ _) (by unfold maxLen; omega) (by omega) (by simp; omega) ?_; intro v9' w3 ho3 hg3 _))
                  obtain ⟨a9', c9', rfl, _⟩ := own_form ho3
                  have hfin : CopRel w1 D k' n m g8 Lx c8 true (.slice a9' (mj + 1) c9') (.int .i64 ((j + 1 : Nat) : Int)) w3 := by
                    have h93 := (H8j.out.alloc (.cells #[.slice (some ⟨g8, 0, none⟩) Lx c8] 22)).kept hg3 (own_ne H8j.out Hoj.out (by decide))
                    have hs9 := (HXj.out.kept (World.grownBy_alloc wr (.cells #[.slice (some ⟨g8, 0, none⟩) Lx c8] 22) none) (fun k hk => by cases hk)).kept hg3 (fun k hk => own_tagX (Hoj.out.alloc _) k hk)
                    have hs8 := hx_row hs9 (HLx.out ▸ h93)
                    rw [H.app_assoc, H.rep_app, show (H.z.app (.c k' .z)) = .c k' .z from rfl, H.rep_snoc] at hs8
                    rw [← HLx.out] at hs8
                    exact ⟨j + 1, mj + 1, _, a9', c9', by omega, by omega, fun h => (by cases h), rfl, rfl, by omega, ho3, hs8, h93, (Hbj.out.alloc (by omega) _).grown hg3 (by simp; omega) (fun k hk => (Hoj.out.lt k hk).1)⟩
                  have Hfin := Lib.hid hfin
                  clear ho3 hg3 hfin
                  go_wp2_with fail
                  go_roundw
                  case rel => exact Hfin.out
                  case measure => simp [intOf]; omega
                · obtain rfl : j = n := by omega
                  have hfin : CutRel w1 f h0 j (.int .i64 (-1)) (.slice a9 mj c9) (.bool ow) (.int .i64 ((i + 1 : Nat) : Int)) wr := by
                    refine ⟨i + 1, mj, -1, ow, D.app (H.rep j k' .z), d.app (.c k .z), r, es, a9, c9, rfl, rfl, rfl, rfl, by rw [H.app_assoc]; exact Hx1.out, by rw [H.app_cnt, Hx2.out]; rfl, by rw [H.app_cnt, H.rep_cnt, ← Hx3.out]; simp [H.cnt]; omega, by omega, by omega, by omega, Hoj.out, HXj.out, Hbj.out, ?_⟩
                    rw [Hcut.out, Hcp.out, H.cut_neg j r (-1) (by omega), H.app_assoc, H.rep_app]
                    rfl
                  have Hfin := Lib.hid hfin
                  clear hfin
                  go_wp2_with fail
                  go_roundw
                  case rel => exact Hfin.out
                  case measure => simp [intOf]; omega
            | false =>
              rw [hnear] at kc hcp
              have Hcp := Lib.hid hcp
              clear hpast hin hcp hkz0 hatr hk' hLx hnear
              go_wp2_with fail
              refine (kh.out).mono ?_
              rintro ee w' ⟨rfl, rfl⟩
              go_wp2_with fail
              refine (kc.out).mono ?_
              rintro ee w2 ⟨a8, c8, rfl, ho8, hb8⟩
              obtain ⟨g8, c8', hv8⟩ := Joins.ownsRow_form ho8 (by omega)
              simp only [Value.slice.injEq, true_and] at hv8
              obtain ⟨rfl, rfl⟩ := hv8
              have Ho2 := Lib.hid (ownsRow_below' Ho.out hb8)
              have HX2 := Lib.hid (HXr.out.kept (row := none) ⟨hb8.os, hb8.tape, hb8.output, hb8.size, fun k hk _ => hb8.block k hk⟩ (fun k hk => by cases hk))
              have Hb2 := Lib.hid (Hbr.out.trans (hb8.mono Hbr.out.size))
              have hs2 := Hb2.out.size
              have H8 := Lib.hid (Joins.ownsRow_le ho8 hsr)
              clear ho8 hb8
              go_wp2_with (first
                | (at_builtin; refine wpList_append_own _ rfl (.tmp 63) (.tmp 65) 59 rfl w1.heap.size 22 j0 (.slice none 0 0) 1 24 Try.underlying59 hj hy0 hy1 hy2 rfl (by decide) _ _ _ rfl (Ho2.out.alloc _) ⟨w2.heap.size, 0, none⟩ 1 1 [.slice (some ⟨g8, 0, none⟩) Lx c8] rfl rfl (cell_one_new _ _ _) (slice_oneCell _ _ _) (by unfold maxLen; omega) (by omega) (by simp; omega) ?_; intro v9' w3 ho3 hg3 _))
              obtain ⟨a9', c9', rfl, _⟩ := own_form ho3
              have hst : CopRel w1 D k' n m g8 Lx c8 false (.slice a9' (m + 1) c9') (.int .i64 ((1 : Nat) : Int)) w3 := by
                have h93 := (H8.out.alloc (.cells #[.slice (some ⟨g8, 0, none⟩) Lx c8] 22)).kept hg3 (own_ne H8.out Ho2.out (by decide))
                have hs9 := (HX2.out.kept (World.grownBy_alloc w2 (.cells #[.slice (some ⟨g8, 0, none⟩) Lx c8] 22) none) (fun k hk => by cases hk)).kept hg3 (fun k hk => own_tagX (Ho2.out.alloc _) k hk)
                exact ⟨1, m + 1, _, a9', c9', Nat.le_refl _, hn1, fun _ => rfl, rfl, rfl, rfl, ho3, HLx.out ▸ hx_row hs9 (HLx.out ▸ h93), h93, (Hb2.out.alloc (by omega) _).grown hg3 (by simp; omega) (fun k hk => (Ho2.out.lt k hk).1)⟩
              have Hst2 := Lib.hid hst
              clear ho3 hg3 hst
              go_loopw [9, 15] (fun v9 v15 wi => CopRel w1 D k' n m g8 Lx c8 false v9 v15 wi) (fun _ v15 _ => n - (intOf v15).toNat)
              case atStart => exact Hst2.out
              case round =>
                obtain ⟨j, mj, es, a9, c9, hj1, hjn, hjf, rfl, rfl, hmj, hoj, hXj, h8j, hbj⟩ := hrel
                have Hoj := Lib.hid hoj
                have HXj := Lib.hid hXj
                have H8j := Lib.hid h8j
                have Hbj := Lib.hid hbj
                have hsj := hbj.size
                clear hoj hXj h8j hbj
                obtain rfl : j = 1 := hjf rfl
                have hfin : CutRel w1 f h0 n (.int .i64 (-1)) (.slice a9 mj c9) (.bool ow) (.int .i64 ((i + 1 : Nat) : Int)) wr := by
                  refine ⟨i + 1, mj, -1, ow, D.app (H.rep 1 k' .z), d.app (.c k .z), r, es, a9, c9, rfl, rfl, rfl, rfl, by rw [H.app_assoc]; exact Hx1.out, by rw [H.app_cnt, Hx2.out]; rfl, by rw [H.app_cnt, H.rep_cnt, ← Hx3.out]; simp [H.cnt]; omega, by omega, by omega, by omega, Hoj.out, HXj.out, Hbj.out, ?_⟩
                  rw [Hcut.out, Hcp.out, H.cut_neg n r (-1) (by omega), H.app_assoc, H.rep_app]
                  simp [H.rep, H.app]
                have Hfin := Lib.hid hfin
                clear hfin hmj
                by_cases hjl : 1 < n
                · go_wp2_with fail
                  go_roundw
                  case rel => exact Hfin.out
                  case measure => simp [intOf]; omega
                · have hjl' : ¬ ((1 : Int) < (n : Int)) := by omega
                  go_wp2_with fail
                  go_roundw
                  case rel => exact Hfin.out
                  case measure => simp [intOf]; omega
      · have hu : u = .z := H.cnt_zero (by omega)
        subst hu
        have hdf : d = f := by rw [H.app_z] at h1; exact h1
        have hfin : (H.cut n f h0).1 = D ∧ (H.cut n f h0).2 = ow := by
          rw [hcut]
          simp [H.cut, H.app_z]
        have kt := Lib.hid (l5Tree_any a9 m c9 D wr (by rw [← hfin.1]; exact Nat.le_trans Hcl.out (by decide)) (Hs.of_own ho hX.hc h3))
        have hp : ∀ a5 c5 w5, w5.ownsRow wr.heap.size 3 1 (.slice a5 D.enc.length c5) D.enc.length (ints D.enc) → Below wr.heap.size wr w5 → OrdOkPost w rf ro (.returned (.tuple #[.slice a5 D.enc.length c5, .bool ow])) w5 := by
          intro a5 c5 w5 ho5 hb5
          rw [Hrf.out, Hro.out, hfin.1, hfin.2]
          exact ⟨a5, c5, rfl, Joins.ownsRow_le ho5 (by have := Hb1.out.size; omega), (Hb1.out.trans (hbr.mono Hb1.out.size)).trans (hb5.mono (by have := Hb1.out.size; omega))⟩
        have Hp := Lib.hid hp
        clear h1 h2 h3 hci ho hX hbr hcut hdf hfin hp
        go_wp2_with fail
        refine (kt.out).mono ?_
        rintro ee w5 ⟨a5, c5, rfl, ho5, hb5⟩
        have Hf := Lib.hid (Hp.out a5 c5 w5 ho5 hb5)
        clear ho5 hb5
        go_wp2_with fail
        go_ret2
        exact Hf.out

set_option maxHeartbeats 4000000 in
theorem spec_HydraCut (ao : Option Addr) (len cap : Nat) (xs : List Int) (h n : Int) (w : World) (hs : Sl w ao len cap xs) :
    Calls Try.prog 12 #[.slice ao len cap, .int .i64 h, .int .i64 n] w (OrdOkPost w (H.cutRow xs h n) (H.cutOkB xs h n)) := by
  have k1 := Lib.hid (spec_HydraValid ao len cap xs w hs)
  have k2 := Lib.hid (spec_HydraHeads ao len cap xs w hs)
  by_cases hv : H.hvB xs = true
  · rw [hv] at k1
    obtain ⟨f, he, h60, hof⟩ := H.hv_of hv
    have hhb : 0 ≤ H.headsRow xs ∧ H.headsRow xs ≤ 60 := by
      rw [H.headsRow, if_pos hv]
      have h3 := H.noughts_le (xs.drop 1)
      rw [List.length_drop] at h3
      have h4 : xs.length ≤ 60 := by rw [he]; exact h60
      omega
    by_cases hn : 1 ≤ n ∧ n ≤ 9
    · have k3 := Lib.hid (l1In_yes n 1 9 w hn.1 hn.2)
      obtain ⟨q, hq⟩ : ∃ q, q = H.headsRow xs := ⟨_, rfl⟩
      rw [← hq] at k2 hhb
      by_cases hh : 0 ≤ h ∧ h < q
      · have k4 := Lib.hid (l1In_yes h 0 (q - 1) w hh.1 (by omega))
        obtain ⟨nn, rfl⟩ := Int.eq_ofNat_of_zero_le (show 0 ≤ n by omega)
        subst he
        have hl : len = f.enc.length := hs.1.symm
        obtain ⟨b, off, rfl, hat⟩ := hs.2.2.2 (by rw [hl, H.enc_len]; omega)
        have k5 := Lib.hid (l5Cut_any (f.body.length + 1) b off len cap nn f h w (by omega) hs.1 (by omega) hs.2.1 hs.2.2.1 hat (by omega) (by omega) (by omega) (by omega))
        have hob : H.cutOkB f.enc h nn = decide ((H.cut nn f h).1.enc.length ≤ 60) := by
          rw [H.cutOkB, hv, ← hq, hof, decide_eq_true (show 1 ≤ ((nn : Nat) : Int) ∧ ((nn : Nat) : Int) ≤ 9 ∧ 0 ≤ h ∧ h < q from ⟨by omega, by omega, hh.1, hh.2⟩)]
          rfl
        have hrow : H.cutRow f.enc h nn = if decide ((H.cut nn f h).1.enc.length ≤ 60) = true then (H.cut nn f h).1.enc else [] := by
          rw [H.cutRow, hob, hof]; rfl
        rw [hob, hrow]
        obtain ⟨R, hR⟩ : ∃ R, R = (H.cut nn f h).1 := ⟨_, rfl⟩
        obtain ⟨o, ho⟩ : ∃ o, o = (H.cut nn f h).2 := ⟨_, rfl⟩
        unfold OrdOkPost at k5
        rw [← hR, ← ho] at k5
        rw [← hR]
        clear hs hv h60 hof hat hq hob hrow hR ho hl
        by_cases hl6 : R.enc.length ≤ 60
        · rw [decide_eq_true hl6, if_pos rfl]
          have Hl6 := Lib.hid hl6
          clear hl6
          go_enter Try.func12, Try.ntmps12
          go_wp2_with fail
          refine (k1.out).mono ?_
          rintro ee w' ⟨rfl, rfl⟩
          go_wp2_with fail
          refine (k3.out).mono ?_
          rintro ee w' ⟨rfl, rfl⟩
          go_wp2_with fail
          refine (k2.out).mono ?_
          rintro ee w' ⟨rfl, rfl⟩
          go_wp2_with fail
          refine (k4.out).mono ?_
          rintro ee w' ⟨rfl, rfl⟩
          go_wp2_with fail
          refine (k5.out).mono ?_
          rintro ee w1 ⟨a1, c1, rfl, ho1, hb1⟩
          have k6 := Lib.hid (spec_HydraValid a1 R.enc.length c1 R.enc w1 (Sl.of_own ho1))
          rw [H.hv_mk Hl6.out] at k6
          have Ho1 := Lib.hid ho1
          have Hb1 := Lib.hid hb1
          clear ho1 hb1
          go_wp2_with fail
          refine (k6.out).mono ?_
          rintro ee w' ⟨rfl, rfl⟩
          go_wp2_with fail
          go_ret2
          exact ⟨a1, c1, rfl, Ho1.out, Hb1.out⟩
        · rw [decide_eq_false hl6, if_neg (by simp)]
          have hnv : H.hvB R.enc = false := H.hvB_false.2 (fun h' => hl6 h'.1)
          have Hnv := Lib.hid hnv
          clear hl6 hnv
          go_enter Try.func12, Try.ntmps12
          go_wp2_with fail
          refine (k1.out).mono ?_
          rintro ee w' ⟨rfl, rfl⟩
          go_wp2_with fail
          refine (k3.out).mono ?_
          rintro ee w' ⟨rfl, rfl⟩
          go_wp2_with fail
          refine (k2.out).mono ?_
          rintro ee w' ⟨rfl, rfl⟩
          go_wp2_with fail
          refine (k4.out).mono ?_
          rintro ee w' ⟨rfl, rfl⟩
          go_wp2_with fail
          refine (k5.out).mono ?_
          rintro ee w1 ⟨a1, c1, rfl, ho1, hb1⟩
          have k6 := Lib.hid (spec_HydraValid a1 R.enc.length c1 R.enc w1 (Sl.of_own ho1))
          rw [Hnv.out] at k6
          have Hb1 := Lib.hid hb1
          clear ho1 hb1
          go_wp2_with fail
          refine (k6.out).mono ?_
          rintro ee w' ⟨rfl, rfl⟩
          go_wp2_with fail
          go_ret2
          exact lit_post Hb1.out
      · have k4 := Lib.hid (l1In_no h 0 (q - 1) w (by omega))
        have hb : H.cutOkB xs h n = false := H.cut_bad (fun h' => hh ⟨h'.2.2.2.1, by rw [hq]; exact h'.2.2.2.2⟩)
        rw [H.cut_no hb, hb]
        clear hs hv he h60 hof hq hh hb
        go_enter Try.func12, Try.ntmps12
        go_wp2_with fail
        refine (k1.out).mono ?_
        rintro ee w' ⟨rfl, rfl⟩
        go_wp2_with fail
        refine (k3.out).mono ?_
        rintro ee w' ⟨rfl, rfl⟩
        go_wp2_with fail
        refine (k2.out).mono ?_
        rintro ee w' ⟨rfl, rfl⟩
        go_wp2_with fail
        refine (k4.out).mono ?_
        rintro ee w' ⟨rfl, rfl⟩
        go_wp2_with fail
        go_ret2
        exact lit_post (Below.refl _ _)
    · have k3 := Lib.hid (l1In_no n 1 9 w (by omega))
      have hb : H.cutOkB xs h n = false := H.cut_bad (fun h' => hn ⟨h'.2.1, h'.2.2.1⟩)
      rw [H.cut_no hb, hb]
      clear hs hv he h60 hof hhb hn hb
      go_enter Try.func12, Try.ntmps12
      go_wp2_with fail
      refine (k1.out).mono ?_
      rintro ee w' ⟨rfl, rfl⟩
      go_wp2_with fail
      refine (k3.out).mono ?_
      rintro ee w' ⟨rfl, rfl⟩
      go_wp2_with fail
      go_ret2
      exact lit_post (Below.refl _ _)
  · have hv' : H.hvB xs = false := by cases hb : H.hvB xs with | true => exact absurd hb hv | false => rfl
    have hb : H.cutOkB xs h n = false := H.cut_bad (fun h' => hv h'.1)
    rw [H.cut_no hb, hb]
    rw [hv'] at k1
    clear hs hv hv' hb
    go_enter Try.func12, Try.ntmps12
    go_wp2_with fail
    refine (k1.out).mono ?_
    rintro ee w' ⟨rfl, rfl⟩
    go_wp2_with fail
    go_ret2
    exact lit_post (Below.refl _ _)

end Go.Proofs.Ytdcgcohfbcdnnaa

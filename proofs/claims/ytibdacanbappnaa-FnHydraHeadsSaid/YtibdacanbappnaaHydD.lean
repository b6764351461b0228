/- What the laws of chapter 5 draw: trees, hydras, and rows that are none. -/
import Derived.Test.YtibdacanbappnaaHydT
import Derived.Test.YtibdacanbappnaaRawKit
import Derived.Test.YtibdacanbappnaaDraw0
import Derived.Deep.CutBlock
import Derived.Deep.DeepCutAuto
import Derived.Deep.LoopGhost
namespace Go.Proofs.Ytibdacanbappnaa
set_option maxRecDepth 100000
open Go.RowKit

/-- Trees, each in a row of its own behind a place. -/
def HG (w : World) (B : Nat) : H → List Value → Prop
  | .z, es => es = []
  | .c k r, es => ∃ b cap es', es = .slice (some ⟨b, 0, none⟩) k.enc.length cap :: es' ∧ w.ownsRow B 3 1 (.slice (some ⟨b, 0, none⟩) k.enc.length cap) k.enc.length (ints k.enc) ∧ HG w B r es'

theorem HG.hc {w : World} {B : Nat} {t : H} {es : List Value} (h : HG w B t es) : HC w t es := by
  induction t generalizing es with
  | z => exact h
  | c k r _ ih =>
    obtain ⟨b, cap, es', rfl, h1, h2⟩ := h
    obtain ⟨q1, q2, q3, q4⟩ := Sl.of_own h1
    obtain ⟨b', off, q5, q6⟩ := q4 (by rw [H.enc_len]; omega)
    cases q5
    exact ⟨b, 0, cap, es', rfl, q6, q2, q3, ih h2⟩

theorem HG.snoc {w : World} {B : Nat} {t : H} {es : List Value} {e : H} {b cap : Nat} (h : HG w B t es) (ha : w.ownsRow B 3 1 (.slice (some ⟨b, 0, none⟩) e.enc.length cap) e.enc.length (ints e.enc)) :
    HG w B (t.app (.c e .z)) (es ++ [.slice (some ⟨b, 0, none⟩) e.enc.length cap]) := by
  induction t generalizing es with
  | z => simp only [HG] at h; subst h; exact ⟨b, cap, [], rfl, ha, rfl⟩
  | c f r _ ih =>
    obtain ⟨b', cap', es', rfl, h1, h2⟩ := h
    exact ⟨b', cap', _, rfl, h1, ih h2⟩

/-- They stay behind whatever leaves their rows alone. -/
theorem HG.kept {w w' : World} {B : Nat} {row : Option Nat} {t : H} {es : List Value} (h : HG w B t es) (hg : w.grownBy w' row) (hr : ∀ k, row = some k → k < B ∨ ∃ cs fr, w.heap[k]? = some (.cells cs 23 fr)) : HG w' B t es := by
  induction t generalizing es with
  | z => exact h
  | c f r _ ih =>
    obtain ⟨b, cap, es', rfl, h1, h2⟩ := h
    refine ⟨b, cap, es', rfl, h1.kept hg (.inr fun he => ?_), ih h2⟩
    have hb := h1.lt b rfl
    rcases hr b (by rw [← he]; rfl) with h3 | ⟨cs, fr, h3⟩
    · omega
    · rcases h1.2 with ⟨h4, _⟩ | ⟨g, c, cur, h4, _, h5, _⟩
      · cases h4
      · simp only [Value.slice.injEq, Option.some.injEq, Addr.mk.injEq] at h4
        obtain ⟨⟨rfl, _⟩, _⟩ := h4
        rw [h3] at h5
        simp at h5

theorem own_tag {w : World} {B e n size : Nat} {v : Value} {xs : List Value} (h : w.ownsRow B e size v n xs) : ∀ k, v.ownBlock = some k → ∃ cs fr, w.heap[k]? = some (.cells cs e fr) := by
  intro k hk
  rcases h.2 with ⟨rfl, _⟩ | ⟨g, cap, cur, rfl, _, hg, _⟩
  · simp [Value.ownBlock] at hk
  · simp [Value.ownBlock] at hk
    subst hk
    exact ⟨_, _, hg⟩

/-- How many numbers a tree of so many storeys has at most. -/
def Lt : Nat → Nat
  | 0 => 1
  | d + 1 => 1 + 3 * Lt d
theorem Lt_pos (d : Nat) : 1 ≤ Lt d := by cases d <;> simp [Lt]
theorem Lt_three {d : Nat} (h : d ≤ 3) : Lt d ≤ 40 := by
  have : d = 0 ∨ d = 1 ∨ d = 2 ∨ d = 3 := by omega
  rcases this with rfl | rfl | rfl | rfl <;> decide

def TreePost (w : World) (g P d : Nat) (e : Ending) (w' : World) : Prop :=
  ∃ (f : H) (g' c : Nat), e = .returned (.slice (some ⟨g', 0, none⟩) f.enc.length c) ∧ w'.ownsRow w.heap.size 3 1 (.slice (some ⟨g', 0, none⟩) f.enc.length c) f.enc.length (ints f.enc) ∧
    f.enc.length ≤ Lt d ∧ RdOk w' g (P + Lt d) ∧ w.grownBy w' (some g)

def TreeRel (w : World) (g P d : Nat) (v5 v6 : Value) (wr : World) : Prop :=
  ∃ (j : Nat) (f : H) (es : List Value) (a5 : Option Addr) (c5 : Nat), v6 = .int .i64 j ∧ v5 = .slice a5 f.cnt c5 ∧ j + f.cnt ≤ 3 ∧ wr.ownsRow w.heap.size 23 1 v5 f.cnt es ∧ HG wr w.heap.size f es ∧
    f.body.length ≤ f.cnt * Lt (d - 1) ∧ (d = 0 → f = .z) ∧ RdOk wr g (P + 1 + f.cnt * Lt (d - 1)) ∧ w.grownBy wr (some g)

theorem TreeRel.fin {w wr w' : World} {g P d : Nat} {e : Ending} {f : H} (hf : f.cnt ≤ 3) (hl : f.body.length ≤ f.cnt * Lt (d - 1)) (h0 : d = 0 → f = .z) (hr : RdOk wr g (P + 1 + f.cnt * Lt (d - 1))) (hg : w.grownBy wr (some g))
    (h : RowPost wr f.enc e w') : TreePost w g P d e w' := by
  obtain ⟨a, c, rfl, ho, hb⟩ := h
  obtain ⟨g', c', hv⟩ := Joins.ownsRow_form ho (by rw [H.enc_len]; omega)
  simp at hv
  obtain ⟨rfl, rfl⟩ := hv
  have hle : 1 + f.cnt * Lt (d - 1) ≤ Lt d := by
    cases d with
    | zero => rw [h0 rfl]; simp [H.cnt, Lt]
    | succ d =>
      have := Nat.mul_le_mul_right (Lt d) hf
      simp [Lt]; exact this
  refine ⟨f, g', c, rfl, Joins.ownsRow_le ho hg.size, by rw [H.enc_len]; omega, ?_, ?_⟩
  · exact (hr.kept (below_grown hb none) (fun k hk => by cases hk)).mono (by omega)
  · exact grownBy_step hg (below_grown hb none) (fun k hk => by cases hk)

set_option maxHeartbeats 2000000 in
theorem l20Tree_any (d : Nat) : ∀ (g P : Nat) (dI : Int) (w : World), dI = (d : Int) → P + 200 * d ≤ 95000000 → d ≤ 3 → RdOk w g P →
    Calls Try.prog 101 #[.pointer (some ⟨g, 0, none⟩), .int .i64 dI] w (TreePost w g P d) := by
  induction d with
  | zero =>
    intro g P dI w hd hP _ hrd
    subst hd
    have hgl : g < w.heap.size := by obtain ⟨_, _, _, _, h1, _⟩ := hrd; exact (Array.getElem?_eq_some_iff.1 h1).1
    have kp := Lib.hid (pick_any g P 4 (w.alloc (.cells #[] 23)) (by omega) (by decide) (by decide) (hrd.kept (World.grownBy_alloc w _ none) (fun k hk => by cases hk)))
    have hsz : (w.alloc (.cells #[] 23)).heap.size = w.heap.size + 1 := by simp
    have Hsz := Lib.hid hsz
    have ho0 : (w.alloc (.cells #[] 23)).ownsRow w.heap.size 23 1 (.slice (some ⟨w.heap.size, 0, none⟩) 0 0) 0 [] := World.ownsRow_lit w #[] 0 (Nat.le_refl _) (by simp [maxLen]) rfl
    have hg0 : w.grownBy (w.alloc (.cells #[] 23)) (some g) := World.grownBy_alloc w _ _
    have Ho0 := Lib.hid ho0
    have Hg0 := Lib.hid hg0
    clear hrd hsz ho0 hg0
    go_enter Try.func101, Try.ntmps101
    go_wp2_with fail
    refine (kp.out).mono ?_
    rintro ee w1 ⟨r, rfl, hr, hrd1, hg1⟩
    obtain ⟨j, rfl⟩ := Int.eq_ofNat_of_zero_le hr.1
    have hj4 : j ≤ 3 := by have := hr.2.1 (by decide); omega
    have kt := Lib.hid (l5Tree_any (some ⟨w.heap.size, 0, none⟩) 0 0 .z w1 (by simp [H.enc, H.body]) ⟨rfl, [], rfl, fun h => by omega⟩)
    have Hrd1 := Lib.hid hrd1
    have Hg1 := Lib.hid (grownBy_trans Hg0.out hg1)
    clear hr hrd1 hg1
    go_wp2_with fail
    go_loop [5, 6] (fun v5 v6 => v5 = .slice (some ⟨w.heap.size, 0, none⟩) 0 0 ∧ v6 = .int .i64 j) (fun _ _ => 0)
    case atStart => exact ⟨rfl, rfl⟩
    case round =>
      obtain ⟨rfl, rfl⟩ := hrel
      have hfin : ∀ ee w', RowPost w1 (H.enc .z) ee w' → TreePost w g P 0 ee w' := fun ee w' h => TreeRel.fin (by simp [H.cnt]) (by simp [H.body]) (fun _ => rfl) (by simpa [H.cnt] using Hrd1.out) Hg1.out h
      have Hfin := Lib.hid hfin
      clear hfin
      by_cases hj0 : 0 < j
      · have hn : decide ((0 : Int) < 0) = false := by decide
        go_wp2_with fail
        refine (kt.out).mono ?_
        intro ee w2 hpost
        obtain ⟨v, he⟩ : ∃ v, ee = .returned v := by obtain ⟨_, _, h, _⟩ := hpost; exact ⟨_, h⟩
        subst he
        have Hp := Lib.hid (Hfin.out _ _ hpost)
        clear hpost
        go_wp2_with fail
        go_ret
        exact Hp.out
      · obtain rfl : j = 0 := by omega
        go_wp2_with fail
        refine (kt.out).mono ?_
        intro ee w2 hpost
        obtain ⟨v, he⟩ : ∃ v, ee = .returned v := by obtain ⟨_, _, h, _⟩ := hpost; exact ⟨_, h⟩
        subst he
        have Hp := Lib.hid (Hfin.out _ _ hpost)
        clear hpost
        go_wp2_with fail
        go_ret
        exact Hp.out
  | succ d ih =>
    intro g P dI w hd hP hd3 hrd
    subst hd
    obtain ⟨j0, hj, hy0, hy1, hy2⟩ := info_parts info_ints
    have hgl : g < w.heap.size := by obtain ⟨_, _, _, _, h1, _⟩ := hrd; exact (Array.getElem?_eq_some_iff.1 h1).1
    have kp := Lib.hid (pick_any g P 4 (w.alloc (.cells #[] 23)) (by omega) (by decide) (by decide) (hrd.kept (World.grownBy_alloc w _ none) (fun k hk => by cases hk)))
    have ho0 : (w.alloc (.cells #[] 23)).ownsRow w.heap.size 23 1 (.slice (some ⟨w.heap.size, 0, none⟩) 0 0) 0 [] := World.ownsRow_lit w #[] 0 (Nat.le_refl _) (by simp [maxLen]) rfl
    have hg0 : w.grownBy (w.alloc (.cells #[] 23)) (some g) := World.grownBy_alloc w _ _
    have Ho0 := Lib.hid ho0
    have Hg0 := Lib.hid hg0
    have IH := Lib.hid ih
    have hL : Lt d ≤ 40 := Lt_three (by omega)
    have hdd : ((d + 1 : Nat) : Int) = (d : Int) + 1 := by omega
    rw [hdd]
    have hdp : (0 : Int) < (d : Int) + 1 := by omega
    clear hrd ho0 hg0 ih hdd
    go_enter Try.func101, Try.ntmps101
    go_wp2_with fail
    refine (kp.out).mono ?_
    rintro ee w1 ⟨r, rfl, hr, hrd1, hg1⟩
    obtain ⟨j, rfl⟩ := Int.eq_ofNat_of_zero_le hr.1
    have hj4 : j ≤ 3 := by have := hr.2.1 (by decide); omega
    have hst : TreeRel w g P (d + 1) (.slice (some ⟨w.heap.size, 0, none⟩) 0 0) (.int .i64 (j : Int)) w1 :=
      ⟨j, .z, [], _, _, rfl, rfl, by simp [H.cnt]; exact hj4, own_rd Ho0.out hg1 hgl, rfl, by simp [H.body], fun _ => rfl, by simpa [H.cnt] using hrd1, grownBy_trans Hg0.out hg1⟩
    have Hst := Lib.hid hst
    clear hr hrd1 hg1 hst
    go_wp2_with fail
    go_loopg [5, 6] j (fun k v5 v6 wr => TreeRel w g P (d + 1) v5 v6 wr ∧ v6 = .int .i64 (k : Nat))
    case atStart => exact ⟨Hst.out, rfl⟩
    case round =>
      obtain ⟨⟨i, f, es, a5, c5, rfl, rfl, hi3, ho, hG, hbl, _, hrd, hg⟩, hgk⟩ := hrel
      obtain rfl : i = gk := by have h : (i : Int) = (gk : Int) := by simpa using hgk
                                omega
      have hcm : f.cnt * Lt d ≤ 120 := by
        have := Nat.mul_le_mul (show f.cnt ≤ 3 by omega) hL
        omega
      simp only [Nat.add_sub_cancel] at hbl hrd
      have Hbl := Lib.hid hbl
      have Hcm := Lib.hid hcm
      have Hi3 := Lib.hid hi3
      by_cases hi0 : 0 < i
      · have k2 := Lib.hid (IH.out g (P + 1 + f.cnt * Lt d) (d : Int) wr rfl (by omega) (by omega) hrd)
        have Ho := Lib.hid ho
        have HGt := Lib.hid hG
        have Hg := Lib.hid hg
        have hf3 : f.cnt ≤ 3 := by omega
        have hi33 : i ≤ 3 := by omega
        clear ho hG hrd hg hbl hcm hi3 hgk
        have hw1 : (d : Int) + 1 - 1 = (d : Int) := by omega
        go_wp2_with fail
        refine (k2.out).mono ?_
        rintro ee w2 ⟨e, g2, c2, rfl, ho2, hl2, hrd2, hg2⟩
        have HoA := Lib.hid (own_rd Ho.out hg2 hgl)
        have HGA := Lib.hid (HGt.out.kept hg2 (fun k hk => by cases hk; exact .inl hgl))
        have HgA := Lib.hid (grownBy_trans Hg.out hg2)
        have Ho2 := Lib.hid (Joins.ownsRow_le ho2 Hg.out.size)
        have Hrd2 := Lib.hid hrd2
        have Hl2 := Lib.hid hl2
        have hws : w.heap.size ≤ w2.heap.size := HgA.out.size
        clear ho2 hl2 hrd2 hg2
        go_wp2_with (first
          | (at_builtin; refine wpList_append_own _ rfl (.tmp 18) (.tmp 23) 66 rfl w.heap.size 23 j0 (.slice none 0 0) 1 24 Try.underlying66 hj hy0 hy1 hy2 rfl (by decide) _ _ _ rfl (HoA.out.alloc _) ⟨w2.heap.size, 0, none⟩ 1 1 [.slice (some ⟨g2, 0, none⟩) e.enc.length c2] rfl rfl (cell_one_new _ _ _) (slice_oneCell _ _ _) (by unfold maxLen; omega) (by omega) (by simp; omega) ?_; intro v2' w3 ho3 hg3 _))
        have hrow : ∀ k o, Value.ownBlock (.slice a5 f.cnt c5) = some k → k < w.heap.size ∨ ∃ cs fr, (w2.alloc o).heap[k]? = some (.cells cs 23 fr) := fun k o hk => .inr (own_tag (HoA.out.alloc o) k hk)
        have hrw : ∀ k, Value.ownBlock (.slice a5 f.cnt c5) = some k → w.heap.size ≤ k := fun k hk => (HoA.out.lt k hk).1
        obtain ⟨a6, c6, rfl, _⟩ := own_form ho3
        have hfin : TreeRel w g P (d + 1) (.slice a6 (f.cnt + 1) c6) (.int .i64 ((i - 1 : Nat) : Int)) w3 := by
          have hgB : w2.grownBy (w2.alloc (.cells #[.slice (some ⟨g2, 0, none⟩) e.enc.length c2] 23)) none := World.grownBy_alloc w2 _ none
          have hrd3 : RdOk w3 g (P + 1 + f.cnt * Lt d + Lt d) := (Hrd2.out.kept hgB (fun k hk => by cases hk)).kept hg3 (fun k hk => by have := hrw k hk; omega)
          have hGA := (HGA.out.kept hgB (fun k hk => by cases hk)).kept hg3 (fun k hk => hrow k _ hk)
          have hoe := (Ho2.out.alloc (.cells #[.slice (some ⟨g2, 0, none⟩) e.enc.length c2] 23)).kept hg3 (own_ne Ho2.out HoA.out (by decide))
          have hcn : (f.app (.c e .z)).cnt = f.cnt + 1 := by rw [H.app_cnt]; rfl
          have hmm : (f.cnt + 1) * Lt d = f.cnt * Lt d + Lt d := by rw [Nat.add_mul, Nat.one_mul]
          refine ⟨i - 1, f.app (.c e .z), es ++ [.slice (some ⟨g2, 0, none⟩) e.enc.length c2], a6, c6, rfl, by rw [hcn], ?_, ?_, hGA.snoc hoe, ?_, fun h => by omega, ?_, ?_⟩
          · rw [hcn]; have := Hi3.out; omega
          · rw [hcn]; exact ho3
          · simp only [Nat.add_sub_cancel]
            rw [H.app_body, H.body_c, hcn, hmm]
            have h1 := Hl2.out
            have h2 := Hbl.out
            simp [H.body]; omega
          · simp only [Nat.add_sub_cancel]
            rw [hcn, hmm]
            exact hrd3.mono (by omega)
          · exact grownBy_step (grownBy_step HgA.out hgB (fun k hk => by cases hk)) hg3 (fun k hk => .inr (hrw k hk))
        have Hfin := Lib.hid hfin
        clear hfin ho3 hg3 hrow hrw
        go_wp2_with fail
        go_roundg (i - 1)
        case measure => omega
        case rel =>
          have hv6 : (i : Int) - 1 = ((i - 1 : Nat) : Int) := by omega
          rw [hv6]
          exact ⟨Hfin.out, rfl⟩
      · obtain rfl : i = 0 := by omega
        have kt2 := Lib.hid (l5Tree_any a5 f.cnt c5 f wr (by rw [H.enc_len]; omega) (Hs.of_own ho hG.hc rfl))
        have hfin : ∀ ee w', RowPost wr f.enc ee w' → TreePost w g P (d + 1) ee w' := fun ee w' h => TreeRel.fin (by omega) Hbl.out (fun h => by omega) (by simpa using hrd) hg h
        have Hfin := Lib.hid hfin
        clear hfin ho hG hrd hg hbl hcm hi3 hgk
        go_wp2_with fail
        refine (kt2.out).mono ?_
        intro ee w2 hpost
        obtain ⟨v, he⟩ : ∃ v, ee = .returned v := by obtain ⟨_, _, h, _⟩ := hpost; exact ⟨_, h⟩
        subst he
        have Hp := Lib.hid (Hfin.out _ _ hpost)
        clear hpost
        go_wp2_with fail
        go_ret
        exact Hp.out

/-- A row that was drawn. -/
def HydPost (w : World) (g P : Nat) (e : Ending) (w' : World) : Prop :=
  ∃ (xs : List Int) (g' n c : Nat), n = xs.length ∧ e = .returned (.slice (some ⟨g', 0, none⟩) n c) ∧ w'.ownsRow w.heap.size 3 1 (.slice (some ⟨g', 0, none⟩) n c) n (ints xs) ∧
    n ≤ 50 ∧ RdOk w' g (P + 400) ∧ w.grownBy w' (some g)

def HydRel (w : World) (g P k : Nat) (v5 v6 : Value) (wr : World) : Prop :=
  ∃ (j : Nat) (t : H) (g1 c1 : Nat), v6 = .int .i64 j ∧ k + j = 5 ∧ v5 = .slice (some ⟨g1, 0, none⟩) t.enc.length c1 ∧ wr.ownsRow w.heap.size 3 1 v5 t.enc.length (ints t.enc) ∧
    t.enc.length ≤ 40 ∧ RdOk wr g (P + 40 + j * 41) ∧ w.grownBy wr (some g)

def HydCut (w : World) (g P : Nat) (v5 : Value) (wx : World) : Prop :=
  ∃ (xs : List Int) (g1 n c1 : Nat), n = xs.length ∧ v5 = .slice (some ⟨g1, 0, none⟩) n c1 ∧ wx.ownsRow w.heap.size 3 1 v5 n (ints xs) ∧ n ≤ 40 ∧ RdOk wx g (P + 300) ∧ w.grownBy wx (some g)

theorem HydRel.cut {w wr : World} {g P k : Nat} {v5 v6 : Value} (h : HydRel w g P k v5 v6 wr) : HydCut w g P v5 wr := by
  obtain ⟨j, t, g1, c1, rfl, hk, rfl, ho, hl, hr, hg⟩ := h
  exact ⟨t.enc, g1, t.enc.length, c1, rfl, rfl, ho, hl, hr.mono (by omega), hg⟩

theorem hyd_fin {w w7 w8 : World} {g P n g' c : Nat} {xs : List Int} (h0 : w.grownBy w7 (some g)) (hg : w7.grownBy w8 none) (hr : RdOk w7 g (P + 400)) (hn : n = xs.length) (hl : n ≤ 50)
    (ho : w8.ownsRow w7.heap.size 3 1 (.slice (some ⟨g', 0, none⟩) n c) n (ints xs)) : HydPost w g P (.returned (.slice (some ⟨g', 0, none⟩) n c)) w8 :=
  ⟨xs, g', n, c, hn, rfl, Joins.ownsRow_le ho h0.size, hl, hr.kept hg (fun k hk => by cases hk), grownBy_step h0 hg (fun k hk => by cases hk)⟩

theorem hyd_news {w : World} {B e n b c : Nat} {xs : List Value} {o : Obj} (ho : w.ownsRow B e 1 (.slice (some ⟨b, 0, none⟩) n c) n xs) :
    ∀ j x, xs[j]? = some x → (w.alloc o).cell? ((⟨b, 0, none⟩ : Addr).add j) = some x := by
  intro j x hx
  have hj : j < xs.length := (List.getElem?_eq_some_iff.1 hx).1
  have hl := ho.1
  rw [Addr.add_lit, Nat.zero_add, World.cell?_alloc_past _ _ _ (ho.lt b rfl).2, ho.cellAt j (by omega)]
  exact hx

theorem hyd_le {w w' : World} {o : Obj} {row : Option Nat} (hg : (w.alloc o).grownBy w' row) : w.heap.size + 1 ≤ w'.heap.size := by
  have := hg.size
  simpa using this

theorem hyd_gn {wz W w' : World} {row : Option Nat} (h : wz.grownBy W none) (k : W.grownBy w' row) (hr : ∀ r, row = some r → wz.heap.size ≤ r) : wz.grownBy w' none := by
  refine ⟨k.os.trans h.os, k.tape.trans h.tape, k.output.trans h.output, Nat.le_trans h.size k.size, fun i hi hne => ?_⟩
  rw [k.block i (Nat.lt_of_lt_of_le hi h.size) (fun e => by have := hr i e.symm; omega)]
  exact h.block i hi hne

set_option maxHeartbeats 2000000 in
theorem l20Hydra_any (g P : Nat) (n : Int) (w : World) (hP : P ≤ 90000000) (hn0 : 0 ≤ n) (hn1 : n ≤ 1000000) (hrd : RdOk w g P) :
    Calls Try.prog 57 #[.pointer (some ⟨g, 0, none⟩), .int .i64 n] w (HydPost w g P) := by
  obtain ⟨i0, hi, hz0, hz1, hz2⟩ := info_parts info_int
  have hgl : g < w.heap.size := by obtain ⟨_, _, _, _, h1, _⟩ := hrd; exact (Array.getElem?_eq_some_iff.1 h1).1
  have k3 := Lib.hid (l20Tree_any 3 g P 3 w rfl (by omega) (by omega) hrd)
  clear hrd
  go_enter Try.func57, Try.ntmps57
  go_wp2_with fail
  refine (k3.out).mono ?_
  rintro ee w1 ⟨t1, g1, c1, rfl, ho1, hl1, hr1, hg1⟩
  have hst : HydRel w g P 5 (.slice (some ⟨g1, 0, none⟩) t1.enc.length c1) (.int .i64 0) w1 :=
    ⟨0, t1, g1, c1, rfl, rfl, rfl, ho1, Nat.le_trans hl1 (by decide), hr1.mono (by simp [Lt]), hg1⟩
  have Hst := Lib.hid hst
  clear hst ho1 hl1 hr1 hg1
  go_upto_block 0 with fail
  go_cut [5] (fun v5 wx => HydCut w g P v5 wx)
  case first =>
    go_wp2_with fail
    go_loopg [5, 6] 5 (fun k v5 v6 wr => HydRel w g P k v5 v6 wr)
    case atStart => exact Hst.out
    case round =>
      have Hrel := Lib.hid hrel
      obtain ⟨j, t, g2, c2, rfl, hkj, rfl, ho, hl, hr, hg⟩ := hrel
      have Hkj := Lib.hid hkj
      have hj5 : j ≤ 5 := by omega
      by_cases hj : j < 5
      · have goOn : (20 < t.enc.length ∨ t.enc.length < 3) ∨ ¬ (20 < t.enc.length) ∧ ¬ (t.enc.length < 3) := by omega
        have kp := Lib.hid (pick_any g (P + 40 + j * 41) 3 wr (by omega) (by decide) (by decide) hr)
        have Hg := Lib.hid hg
        have Ho := Lib.hid ho
        rcases goOn with hgo | ⟨hno1, hno2⟩
        · rcases hgo with hlen | hlen
          all_goals
            have hlen' : decide (20 < t.enc.length) = false ∨ 20 < t.enc.length := by simp; omega
            clear hkj ho hr hg
            go_wp2_with fail
            refine (kp.out).mono ?_
            rintro ee w2 ⟨r, rfl, hr3, hrd2, hg2⟩
            obtain ⟨rn, rfl⟩ := Int.eq_ofNat_of_zero_le hr3.1
            have hrn : rn ≤ 2 := by have := hr3.2.1 (by decide); omega
            have k2 := Lib.hid (l20Tree_any (rn + 1) g (P + 40 + j * 41 + 1) (1 + (rn : Int)) w2 (by omega) (by omega) (by omega) hrd2)
            have HgA := Lib.hid (grownBy_trans Hg.out hg2)
            clear hr3 hrd2 hg2
            go_wp2_with fail
            refine (k2.out).mono ?_
            rintro ee w3 ⟨t2, g3, c3, rfl, ho3, hl3, hr3, hg3⟩
            have hfin : HydRel w g P (gk - 1) (.slice (some ⟨g3, 0, none⟩) t2.enc.length c3) (.int .i64 ((j + 1 : Nat) : Int)) w3 := by
              have hL := Lt_three (show rn + 1 ≤ 3 by omega)
              exact ⟨j + 1, t2, g3, c3, rfl, by have := Hkj.out; omega, rfl, Joins.ownsRow_le ho3 HgA.out.size, by omega, hr3.mono (by omega), grownBy_trans HgA.out hg3⟩
            have Hfin := Lib.hid hfin
            clear hfin ho3 hl3 hr3 hg3
            go_wp2_with fail
            go_roundg (gk - 1)
            case measure => have := Hkj.out; omega
            case rel => exact Hfin.out
        · clear hkj ho hr hg
          go_wp2_with fail
          go_meet
          exact HydRel.cut Hrel.out
      · clear hkj ho hr hg
        go_wp2_with fail
        go_meet
        exact HydRel.cut Hrel.out
  case rest =>
    obtain ⟨xs, g2, m, c2, hm, rfl, ho, hl, hr, hg⟩ := hcut
    obtain ⟨w5, rfl⟩ : ∃ w5 : World, w5 = wc := ⟨_, rfl⟩
    have Hm := Lib.hid hm
    have Ho := Lib.hid ho
    have Hg := Lib.hid hg
    have Hr := Lib.hid hr
    have ko := Lib.hid (odd_any g (P + 300) n w5 (by omega) (by omega) (by omega) hr)
    have hm60 : ¬ 60 < m := by omega
    clear hm ho hg hr
    go_wp2_with fail
    refine (ko.out).mono ?_
    rintro ee w6 ⟨b, rfl, hr6, hg6⟩
    have Hg6 := Lib.hid (grownBy_trans Hg.out hg6)
    have Ho6 := Lib.hid (own_rd Ho.out hg6 hgl)
    have Hr6 := Lib.hid hr6
    clear hr6 hg6
    cases b with
    | false =>
      go_wp2_with fail
      go_ret
      exact ⟨xs, g2, m, c2, Hm.out, rfl, Ho6.out, by omega, Hr6.out.mono (by omega), Hg6.out⟩
    | true =>
      have kp := Lib.hid (pick_any g (P + 300 + 1) 4 w6 (by omega) (by decide) (by decide) Hr6.out)
      go_wp2_with fail
      refine (kp.out).mono ?_
      rintro ee w7 ⟨r, rfl, hr7, hrd7, hg7⟩
      have hr70 := hr7.1
      have hr71 := hr7.2.1 (by decide)
      have Hg7 := Lib.hid (grownBy_trans Hg6.out hg7)
      have Ho7 := Lib.hid (own_rd Ho6.out hg7 hgl)
      have Hr7 := Lib.hid (hrd7.mono (show P + 300 + 1 + 1 ≤ P + 400 by omega))
      clear hr7 hrd7 hg7
      have hcase : r = 0 ∨ r = 1 ∨ r = 2 ∨ r = 3 := by omega
      rcases hcase with rfl | rfl | rfl | rfl
      · go_wp2_with fail
        go_ret
        exact hyd_fin (xs := []) Hg7.out (World.grownBy_alloc w7 _ none) Hr7.out rfl (by decide) (World.ownsRow_lit w7 #[] 0 (Nat.le_refl _) (by simp [maxLen]) rfl)
      · have HX := Lib.hid (show (ints xs).length = m * 1 by rw [ints_len]; have := Hm.out; omega)
        have HN := Lib.hid (show ∀ j u, (ints xs)[j]? = some u → (w7.alloc (.cells #[] 3)).cell? ((⟨g2, 0, none⟩ : Addr).add j) = some u from hyd_news Ho7.out)
        go_wp2_with (first
          | (at_builtin; refine wpList_append_own _ rfl (.tmp 43) (.tmp 44) 23 rfl w7.heap.size 3 i0 (.int .i64 0) 1 8 Try.underlying23 hi hz0 hz1 hz2 rfl (by decide) _ 0 [] rfl (World.ownsRow_lit w7 #[] 0 (Nat.le_refl _) (by simp [maxLen]) rfl) ⟨g2, 0, none⟩ m c2 (ints xs) rfl HX.out HN.out (ints_one _) (by unfold maxLen; omega) (by omega) (by simp) ?_; intro v1 w8 ho1 hg1 _)
          | (at_builtin; refine wpList_append_own _ rfl (.tmp 45) (.tmp 46) 23 rfl w7.heap.size 3 i0 (.int .i64 0) 1 8 Try.underlying23 hi hz0 hz1 hz2 rfl (by decide) _ m (ints xs) rfl ((own0 ho1).alloc _) ⟨w8.heap.size, 0, none⟩ 1 1 [.int .i64 0] rfl rfl (cell_one_new _ _ _) (ints_oneCell _ [0]) (by unfold maxLen; omega) (by omega) (by have h1 : w7.heap.size + 1 ≤ w8.heap.size := hyd_le hg1; simp; omega) ?_; intro v2 w9 ho2 hg2 _))
        obtain ⟨g5, c5, rfl⟩ := Joins.ownsRow_form ho2 (by omega)
        have hgA := hyd_gn (hyd_gn (hyd_gn (World.grownBy_alloc w7 _ none) hg1 (fun r e => by cases e; exact Nat.le_refl _)) (World.grownBy_alloc w8 _ none) (fun r e => by cases e)) hg2 (fun r e => ((own0 ho1).lt r e).1)
        have hfin : HydPost w g P (.returned (.slice (some ⟨g5, 0, none⟩) (m + 1) c5)) w9 :=
          hyd_fin (xs := xs ++ [0]) Hg7.out hgA Hr7.out (by have := Hm.out; simp; omega) (by omega) (by simpa [ints] using ho2)
        have Hfin := Lib.hid hfin
        clear hfin hgA ho1 hg1 ho2 hg2
        go_wp2_with fail
        go_ret
        exact Hfin.out
      · go_wp2_with fail
        go_ret
        exact hyd_fin (xs := [1]) Hg7.out (World.grownBy_alloc w7 _ none) Hr7.out rfl (by decide) (World.ownsRow_lit w7 _ 1 (Nat.le_refl _) (by simp [maxLen]) rfl)
      · go_wp2_with fail
        go_ret
        exact hyd_fin (xs := [-1]) Hg7.out (World.grownBy_alloc w7 _ none) Hr7.out rfl (by decide) (World.ownsRow_lit w7 _ 1 (Nat.le_refl _) (by simp [maxLen]) rfl)

def HydDraw (w : World) (e : Ending) (w' : World) : Prop :=
  ∃ (xs : List Int) (g n c : Nat), n = xs.length ∧ e = .returned (.slice (some ⟨g, 0, none⟩) n c) ∧ w'.ownsRow w.heap.size 3 1 (.slice (some ⟨g, 0, none⟩) n c) n (ints xs) ∧ n ≤ 50 ∧ Below w.heap.size w w'

theorem HydPost.draw {w w1 w2 : World} {e : Ending} (h : HydPost w1 w.heap.size 0 e w2) (hb : Below w.heap.size w w1) : HydDraw w e w2 := by
  obtain ⟨xs, g, n, c, hn, rfl, ho, hl, _, hg⟩ := h
  exact ⟨xs, g, n, c, hn, rfl, Joins.ownsRow_le ho hb.size, hl, hb.grown hg hb.size (fun k e => by cases e; exact Nat.le_refl _)⟩

set_option maxHeartbeats 1000000 in
theorem drawHydraValid_any (a : Option Addr) (len cap : Nat) (w : World) (h : By w a len cap) : Calls Try.prog 15 #[.slice a len cap] w (HydDraw w) := by
  have k0 := Lib.hid (open_any a len cap w h)
  obtain ⟨g, hg⟩ : ∃ g, g = w.heap.size := ⟨_, rfl⟩
  rw [← hg] at k0
  have Hg := Lib.hid hg
  clear hg h
  go_enter Try.func15, Try.ntmps15
  go_wp2_with fail
  refine (k0.out).mono ?_
  rintro ee w1 ⟨rfl, hr1, hb1⟩
  have Hb1 := Lib.hid hb1
  have k1 := Lib.hid (l20Hydra_any g 0 2 w1 (by decide) (by decide) (by decide) hr1)
  clear hb1 hr1
  go_wp2_with fail
  refine (k1.out).mono ?_
  intro ee w2 hpost
  obtain ⟨v, he⟩ : ∃ v, ee = .returned v := by obtain ⟨_, g', n, c, _, h, _⟩ := hpost; exact ⟨_, h⟩
  subst he
  have Hp := Lib.hid hpost
  clear hpost
  go_wp2_with fail
  go_ret
  rw [Hg.out] at Hp
  exact Hp.out.draw (by rw [← Hg.out]; exact Hb1.out)
set_option maxHeartbeats 1000000 in
theorem drawHydraHeads_any (a : Option Addr) (len cap : Nat) (w : World) (h : By w a len cap) : Calls Try.prog 19 #[.slice a len cap] w (HydDraw w) := by
  have k0 := Lib.hid (open_any a len cap w h)
  obtain ⟨g, hg⟩ : ∃ g, g = w.heap.size := ⟨_, rfl⟩
  rw [← hg] at k0
  have Hg := Lib.hid hg
  clear hg h
  go_enter Try.func19, Try.ntmps19
  go_wp2_with fail
  refine (k0.out).mono ?_
  rintro ee w1 ⟨rfl, hr1, hb1⟩
  have Hb1 := Lib.hid hb1
  have k1 := Lib.hid (l20Hydra_any g 0 9 w1 (by decide) (by decide) (by decide) hr1)
  clear hb1 hr1
  go_wp2_with fail
  refine (k1.out).mono ?_
  intro ee w2 hpost
  obtain ⟨v, he⟩ : ∃ v, ee = .returned v := by obtain ⟨_, g', n, c, _, h, _⟩ := hpost; exact ⟨_, h⟩
  subst he
  have Hp := Lib.hid hpost
  clear hpost
  go_wp2_with fail
  go_ret
  rw [Hg.out] at Hp
  exact Hp.out.draw (by rw [← Hg.out]; exact Hb1.out)
set_option maxHeartbeats 1000000 in
theorem drawHydraOrd_any (a : Option Addr) (len cap : Nat) (w : World) (h : By w a len cap) : Calls Try.prog 28 #[.slice a len cap] w (HydDraw w) := by
  have k0 := Lib.hid (open_any a len cap w h)
  obtain ⟨g, hg⟩ : ∃ g, g = w.heap.size := ⟨_, rfl⟩
  rw [← hg] at k0
  have Hg := Lib.hid hg
  clear hg h
  go_enter Try.func28, Try.ntmps28
  go_wp2_with fail
  refine (k0.out).mono ?_
  rintro ee w1 ⟨rfl, hr1, hb1⟩
  have Hb1 := Lib.hid hb1
  have k1 := Lib.hid (l20Hydra_any g 0 9 w1 (by decide) (by decide) (by decide) hr1)
  clear hb1 hr1
  go_wp2_with fail
  refine (k1.out).mono ?_
  intro ee w2 hpost
  obtain ⟨v, he⟩ : ∃ v, ee = .returned v := by obtain ⟨_, g', n, c, _, h, _⟩ := hpost; exact ⟨_, h⟩
  subst he
  have Hp := Lib.hid hpost
  clear hpost
  go_wp2_with fail
  go_ret
  rw [Hg.out] at Hp
  exact Hp.out.draw (by rw [← Hg.out]; exact Hb1.out)
set_option maxHeartbeats 1000000 in
theorem drawHydraSort_any (a : Option Addr) (len cap : Nat) (w : World) (h : By w a len cap) : Calls Try.prog 36 #[.slice a len cap] w (HydDraw w) := by
  have k0 := Lib.hid (open_any a len cap w h)
  obtain ⟨g, hg⟩ : ∃ g, g = w.heap.size := ⟨_, rfl⟩
  rw [← hg] at k0
  have Hg := Lib.hid hg
  clear hg h
  go_enter Try.func36, Try.ntmps36
  go_wp2_with fail
  refine (k0.out).mono ?_
  rintro ee w1 ⟨rfl, hr1, hb1⟩
  have Hb1 := Lib.hid hb1
  have k1 := Lib.hid (l20Hydra_any g 0 9 w1 (by decide) (by decide) (by decide) hr1)
  clear hb1 hr1
  go_wp2_with fail
  refine (k1.out).mono ?_
  intro ee w2 hpost
  obtain ⟨v, he⟩ : ∃ v, ee = .returned v := by obtain ⟨_, g', n, c, _, h, _⟩ := hpost; exact ⟨_, h⟩
  subst he
  have Hp := Lib.hid hpost
  clear hpost
  go_wp2_with fail
  go_ret
  rw [Hg.out] at Hp
  exact Hp.out.draw (by rw [← Hg.out]; exact Hb1.out)
end Go.Proofs.Ytibdacanbappnaa

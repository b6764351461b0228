/- The laws' own helpers for slices of rows: sizes, copies, comparisons, marks. -/
import Derived.Test.YtfigkfcdfmoihaaDoorTrRL
import Derived.Deep.RegionHeld3
namespace Go.Proofs.YtfigkfcdfmoihaaDoor
set_option maxRecDepth 100000
open Go.RowKit

/-- A slice of rows in memory. -/
def SlR (w : World) (ao : Option Addr) (n c : Nat) (ts : List (List Int)) : Prop :=
  ts.length = n ∧ n ≤ c ∧ c ≤ maxLen ∧ (0 < n → ∃ b off, ao = some ⟨b, off, none⟩ ∧ ∀ k t, ts[k]? = some t → ∃ a1 n1 c1, w.cell? ⟨b, off + k, none⟩ = some (.slice a1 n1 c1) ∧ Sl w a1 n1 c1 t)
theorem SlR.below {w w' : World} {ao : Option Addr} {n c : Nat} {ts : List (List Int)} (h : SlR w ao n c ts) (hb : Below w.heap.size w w') : SlR w' ao n c ts := by
  obtain ⟨h1, h2, h3, h4⟩ := h
  refine ⟨h1, h2, h3, fun hp => ?_⟩
  obtain ⟨b, off, rfl, hat⟩ := h4 hp
  refine ⟨b, off, rfl, fun k t hk => ?_⟩
  obtain ⟨a1, n1, c1, e1, s1⟩ := hat k t hk
  exact ⟨a1, n1, c1, (hb.cell (cell_in e1)).trans e1, s1.below hb⟩

def szRs : List (List Int) → Nat
  | [] => 0
  | t :: r => t.length + szRs r
theorem szRs_snoc (l : List (List Int)) (t : List Int) : szRs (l ++ [t]) = szRs l + t.length := by
  induction l with
  | nil => simp [szRs]
  | cons y l ih => simp only [List.cons_append, szRs, ih]; omega
theorem szRs_take {l : List (List Int)} {k : Nat} {t : List Int} (h : l[k]? = some t) : szRs (l.take (k + 1)) = szRs (l.take k) + t.length := by
  obtain ⟨hk, he⟩ := List.getElem?_eq_some_iff.1 h
  rw [List.take_succ_eq_append_getElem hk, he, szRs_snoc]
theorem szRs_le (l : List (List Int)) (k : Nat) : szRs (l.take k) ≤ szRs l := by
  induction l generalizing k with
  | nil => simp [szRs]
  | cons y l ih =>
    cases k with
    | zero => simp [szRs]
    | succ k => simp only [List.take_succ_cons, szRs]; have := ih k; omega
theorem szRs_bl {ts : List (List Int)} {m : Nat} (h : szRs ts ≤ m) : ∀ t ∈ ts, t.length ≤ m := by
  intro t ht
  obtain ⟨k, hk⟩ := List.mem_iff_getElem?.1 ht
  have h1 := szRs_take hk
  have h2 := szRs_le ts (k + 1)
  omega

set_option maxHeartbeats 1000000 in
theorem szIntSS_any (ao : Option Addr) (n c : Nat) (ts : List (List Int)) (z : Int) (w : World) (h : SlR w ao n c ts) (hz0 : 0 ≤ z) (hz1 : z ≤ 1048576) :
    Calls Tryd.prog 12 #[.slice ao n c, .int .i64 z] w fun e w' => e = .returned (.int .i64 (szI (n + szRs ts) z)) ∧ Below w.heap.size w w' := by
  have hn9 : n ≤ 9223372036854775807 := by have h1 := h.2.1; have h2 := h.2.2.1; unfold maxLen at h2; omega
  have Hl := Lib.hid h.1
  have H := Lib.hid h
  clear h
  by_cases h0 : (n : Int) ≤ z
  · have h0' : ¬ (z - (n : Int) < 0) := by omega
    obtain ⟨r, hr⟩ : ∃ r, r = szI (n + szRs ts) z := ⟨_, rfl⟩
    rw [← hr]
    have Hr := Lib.hid hr
    clear hr
    go_enter Tryd.func12, Tryd.ntmps12
    go_wp2_with fail
    go_loopw [1, 5] (fun v1 i wr => ∃ (k : Nat) (y : Int), k ≤ n ∧ i = .int .i64 k ∧ v1 = .int .i64 y ∧ 0 ≤ y ∧ Hid (y = z - n - szRs (ts.take k)) ∧ Below w.heap.size w wr) (fun _ i _ => n - (intOf i).toNat)
    case atStart => exact ⟨0, z - n, Nat.zero_le _, rfl, rfl, by omega, Lib.hid (by simp [szRs]), Below.refl _ _⟩
    case round =>
      obtain ⟨k, y, hk, rfl, rfl, hy0, HY, hbel⟩ := hrel
      have hy1 : y ≤ 1048576 := by have := HY.out; omega
      by_cases hlt : k < n
      · obtain ⟨t, ht⟩ : ∃ t, ts[k]? = some t := ⟨ts[k]'(by rw [Hl.out]; exact hlt), List.getElem?_eq_getElem _⟩
        obtain ⟨b, off, rfl, hat⟩ := (H.out.below hbel).2.2.2 (by omega)
        obtain ⟨a1, n1, c1, e1, s1⟩ := hat k t ht
        have m1 : n1 ≤ 9223372036854775807 := by have h1 := s1.2.1; have h2 := s1.2.2.1; unfold maxLen at h2; omega
        have k1 := Lib.hid (szIntS_any a1 n1 c1 y wr m1 hy0 hy1)
        have hstep := szRs_take ht
        rw [s1.1] at hstep
        have Hstep := Lib.hid hstep
        have Hle := Lib.hid (szRs_le ts (k + 1))
        have Hbel := Lib.hid hbel
        clear ht s1 hat hbel hstep
        by_cases hq : (n1 : Int) ≤ y
        · rw [szI_yes hq] at k1
          obtain ⟨y', hy'⟩ : ∃ y', y' = y - (n1 : Int) := ⟨_, rfl⟩
          rw [← hy'] at k1
          have hy2 : ¬ (y' < 0) := by omega
          have HY2 := Lib.hid (show y' = z - n - szRs (ts.take (k + 1)) by rw [Hstep.out, hy', HY.out]; push_cast; omega)
          clear hy' hq
          go_wp2_with fail
          refine (k1.out).mono ?_
          rintro ee w2 ⟨rfl, rfl⟩
          go_wp2_with fail
          go_roundw
          case rel => exact ⟨k + 1, y', by omega, by go_num, rfl, by omega, HY2.out, Hbel.out⟩
          case measure => simp [intOf]; omega
        · rw [szI_no hq] at k1
          have hrm : r = -1 := by rw [Hr.out]; exact szI_no (by have h1 := HY.out; have h2 := Hstep.out; have h3 := Hle.out; push_cast; omega)
          subst hrm
          clear hq
          go_wp2_with fail
          refine (k1.out).mono ?_
          rintro ee w2 ⟨rfl, rfl⟩
          go_wp2_with fail
          go_ret
          exact ⟨rfl, Hbel.out⟩
      · obtain rfl : k = n := by omega
        have hrm : r = y := by
          rw [Hr.out]
          have h1 := HY.out
          rw [List.take_of_length_le (by rw [Hl.out]; exact Nat.le_refl _)] at h1
          rw [szI_yes (by push_cast; omega), h1]; push_cast; omega
        subst hrm
        have Hbel := Lib.hid hbel
        clear hbel
        go_wp2_with fail
        go_ret
        exact ⟨rfl, Hbel.out⟩
  · have h0' : z - (n : Int) < 0 := by omega
    rw [szI_no (by push_cast; omega)]
    go_enter Tryd.func12, Tryd.ntmps12
    go_wp2_with fail
    go_ret
    exact ⟨rfl, Below.refl _ _⟩

/-- Rows that were copied so far: they lie in blocks of their own, one behind the other, behind the slice's own block g. -/
def RsP (w : World) (B U g k : Nat) (ts : List (List Int)) (cs : List Value) (bl : Nat → Nat) : Prop :=
  (∀ j t, j < k → ts[j]? = some t → cs[j]? = some (.slice (some ⟨bl j, 0, none⟩) t.length t.length) ∧ w.ownsRow B 3 1 (.slice (some ⟨bl j, 0, none⟩) t.length t.length) t.length (ints t)) ∧
    (∀ i j, i < j → j < k → bl i < bl j) ∧ (∀ i, i < k → g < bl i ∧ bl i < U)
theorem RsP.below {w w' : World} {B U g k : Nat} {ts : List (List Int)} {cs : List Value} {bl : Nat → Nat} (h : RsP w B U g k ts cs bl) (hb : Below w.heap.size w w') : RsP w' B U g k ts cs bl :=
  ⟨fun j t hj ht => ⟨(h.1 j t hj ht).1, ownsRow_below' (h.1 j t hj ht).2 hb⟩, h.2.1, h.2.2⟩

/-- A slice of rows that the call made. -/
def RsCopy (B U : Nat) (w : World) (v : Value) (n : Nat) (ts : List (List Int)) : Prop :=
  ∃ g cs bl, v = .slice (some ⟨g, 0, none⟩) n n ∧ n = ts.length ∧ w.ownsRow B 22 1 (.slice (some ⟨g, 0, none⟩) n n) n cs ∧ RsP w B U g n ts cs bl
theorem RsCopy.below {B U : Nat} {w w' : World} {v : Value} {n : Nat} {ts : List (List Int)} (h : RsCopy B U w v n ts) (hb : Below w.heap.size w w') : RsCopy B U w' v n ts := by
  obtain ⟨g, cs, bl, h1, h2, h3, h4⟩ := h
  exact ⟨g, cs, bl, h1, h2, ownsRow_below' h3 hb, h4.below hb⟩
theorem RsCopy.parts {B U : Nat} {w : World} {v : Value} {n : Nat} {ts : List (List Int)} (h : RsCopy B U w v n ts) : ∃ g, v = .slice (some ⟨g, 0, none⟩) n n ∧ SlR w (some ⟨g, 0, none⟩) n n ts := by
  obtain ⟨g, cs, bl, rfl, hn, h3, h4⟩ := h
  refine ⟨g, rfl, hn.symm, Nat.le_refl _, ?_, fun _ => ⟨g, 0, rfl, fun k t hk => ?_⟩⟩
  · rcases h3.2 with ⟨h, _⟩ | ⟨g', cap, cur, h, _, _, _, hm, _⟩
    · cases h
    · cases h
      exact hm
  · have hkn : k < n := by rw [hn]; exact (List.getElem?_eq_some_iff.1 hk).1
    obtain ⟨e1, o1⟩ := h4.1 k t hkn hk
    refine ⟨_, _, _, ?_, Sl.of_own o1⟩
    rw [Nat.zero_add, h3.cellAt _ (by omega)]; exact e1
theorem RsCopy.sl {B U : Nat} {w : World} {g n : Nat} {ts : List (List Int)} (h : RsCopy B U w (.slice (some ⟨g, 0, none⟩) n n) n ts) : SlR w (some ⟨g, 0, none⟩) n n ts := by
  obtain ⟨g', e, hs⟩ := h.parts
  cases e
  exact hs

/-- One more block. -/
def upR (bl : Nat → Nat) (k g1 i : Nat) : Nat := if i = k then g1 else bl i
theorem upR_0 (bl : Nat → Nat) (k g1 : Nat) : upR bl k g1 k = g1 := if_pos rfl
theorem upR_o (bl : Nat → Nat) (k g1 : Nat) {i : Nat} (h1 : i ≠ k) : upR bl k g1 i = bl i := by rw [upR, if_neg h1]

theorem RsP.step {w w2 : World} {B g k n n1 : Nat} {ts : List (List Int)} {cs : List Value} {bl : Nat → Nat} {t : List Int} {g1 : Nat} (h : RsP w B w.heap.size g k ts cs bl) (hb : Below w.heap.size w w2) (ht : ts[k]? = some t) (hcs : cs.length = n) (hk : k < n)
    (hn1 : t.length = n1) (hg : g < w.heap.size) (hB : B ≤ w.heap.size) (o1 : w2.ownsRow w.heap.size 3 1 (.slice (some ⟨g1, 0, none⟩) n1 n1) n1 (ints t)) (u1 : Value) :
    ∃ bl', RsP (w2.setCell ⟨g, k, none⟩ u1) B (w2.setCell ⟨g, k, none⟩ u1).heap.size g (k + 1) ts (cs.set k (.slice (some ⟨g1, 0, none⟩) n1 n1)) bl' := by
  subst hn1
  have l1 := o1.lt g1 rfl
  have hsz : (w2.setCell ⟨g, k, none⟩ u1).heap.size = w2.heap.size := by simp [World.setCell]
  refine ⟨upR bl k g1, ?_, ?_, ?_⟩
  · intro j t' hj ht'
    by_cases hjk : j = k
    · subst hjk
      cases ht.symm.trans ht'
      rw [upR_0]
      exact ⟨by rw [List.getElem?_set_self (by omega)], Joins.ownsRow_le (ownsRow_setCell_other o1 (a := ⟨g, j, none⟩) (by simp [Value.ownBlock]; omega) u1) hB⟩
    · obtain ⟨e1, q1⟩ := h.1 j t' (by omega) ht'
      rw [upR_o bl k g1 (i := j) (by omega)]
      have p1 := (h.2.2 j (by omega)).1
      exact ⟨by rw [List.getElem?_set_ne (by omega)]; exact e1, ownsRow_setCell_other (ownsRow_below' q1 hb) (a := ⟨g, k, none⟩) (by simp [Value.ownBlock]; omega) u1⟩
  · intro i j hij hj
    by_cases j1 : j = k
    · have := (h.2.2 i (by omega)).2
      rw [j1, upR_0, upR_o bl k g1 (i := i) (by omega)]
      omega
    · rw [upR_o bl k g1 (i := i) (by omega), upR_o bl k g1 (i := j) j1]
      exact h.2.1 i j hij (by omega)
  · intro i hi
    rw [hsz]
    by_cases i1 : i = k
    · rw [i1, upR_0]; omega
    · rw [upR_o bl k g1 i1]
      have := h.2.2 i (by omega)
      have := hb.size
      omega

set_option maxHeartbeats 2000000 in
theorem toIntSS_any (ao : Option Addr) (n c : Nat) (ts : List (List Int)) (w : World) (hb : n ≤ 1048576) (hbl : ∀ t ∈ ts, t.length ≤ 1048576) (h : SlR w ao n c ts) :
    Calls Tryd.prog 14 #[.slice ao n c] w fun e w' => ∃ v, e = .returned v ∧ RsCopy w.heap.size w'.heap.size w' v n ts ∧ Below w.heap.size w w' := by
  obtain ⟨i0, hi, hz0, hz1, hz2⟩ := info_parts info_ints
  have Hl := Lib.hid h.1
  have H := Lib.hid h
  have HBL := Lib.hid hbl
  clear h hbl
  go_enter Tryd.func14, Tryd.ntmps14
  go_wp2_with (first
    | (at_make; refine wpList_make_full _ rfl (.tmp 6) (.tmp 6) 29 rfl w.heap.size 22 i0 _ 1 Tryd.underlying29 hi hz0 hz1 .i64 .i64 _ _ n rfl rfl rfl rfl (by rw [hz2]; omega) (by unfold maxLen; omega) (Nat.le_refl _) ?_; intro w1 hown hg1))
  have hb1 : Below w.heap.size w w1 := (Below.refl _ _).grown hg1 (Nat.le_refl _) (fun k hk => by cases hk)
  go_loopw [4] (fun i wr => ∃ (k : Nat) (cs : List Value) (bl : Nat → Nat), k ≤ n ∧ i = .int .i64 k ∧ wr.ownsRow w.heap.size 22 1 (.slice (some ⟨w.heap.size, 0, none⟩) n n) n cs ∧ RsP wr w.heap.size wr.heap.size w.heap.size k ts cs bl ∧ Below w.heap.size w wr) (fun i _ => n - (intOf i).toNat)
  case atStart => exact ⟨0, _, fun _ => 0, Nat.zero_le _, rfl, hown, ⟨fun j t hj => by omega, fun i j _ hj => by omega, fun i hi => by omega⟩, hb1⟩
  case round =>
    obtain ⟨k, cs, bl, hk, rfl, hrow, hP, hbel⟩ := hrel
    by_cases hlt : k < n
    · obtain ⟨t, ht⟩ : ∃ t, ts[k]? = some t := ⟨ts[k]'(by rw [Hl.out]; exact hlt), List.getElem?_eq_getElem _⟩
      obtain ⟨b, off, rfl, hat⟩ := (H.out.below hbel).2.2.2 (by omega)
      obtain ⟨a1, n1, c1, e1, s1⟩ := hat k t ht
      have hm := HBL.out t (List.mem_of_getElem? ht)
      have hm1 : n1 ≤ 1048576 := by rw [← s1.1]; exact hm
      have k1 := Lib.hid (toIntS_any a1 n1 c1 t wr (by omega) s1)
      have Hl1 := Lib.hid s1.1
      have Hrow := Lib.hid hrow
      have HP := Lib.hid hP
      have Hbel := Lib.hid hbel
      have Ht := Lib.hid ht
      clear ht s1 hat hbel hm hrow hP
      go_wp2_with fail
      refine (k1.out).mono ?_
      rintro ee w2 ⟨rfl, o1, hb2⟩
      have hown2 := ownsRow_below' Hrow.out hb2
      have hcs : cs.length = n := by have := hown2.1; omega
      obtain ⟨z1, hz1'⟩ : ∃ z, cs[k]? = some z := ⟨_, List.getElem?_eq_getElem (by omega)⟩
      have hst1 := (hown2.stored k (.slice (some ⟨wr.heap.size, 0, none⟩) n1 n1)).1
      have d1 : w2.cell? ⟨w.heap.size, k, none⟩ = some z1 := by rw [hown2.cellAt _ (by omega)]; exact hz1'
      have f1 := hown2.frozenAt k
      obtain ⟨bl', hP'⟩ := HP.out.step hb2 Ht.out hcs hlt Hl1.out (Hrow.out.lt w.heap.size rfl).2 Hbel.out.size o1 (.slice (some ⟨wr.heap.size, 0, none⟩) n1 n1)
      have hbS := (Hbel.out.trans (hb2.mono Hbel.out.size)).setCell (p := ⟨w.heap.size, k, none⟩) (Nat.le_refl _) (.slice (some ⟨wr.heap.size, 0, none⟩) n1 n1)
      have Hst1 := Lib.hid hst1
      have HP' := Lib.hid hP'
      have HbS := Lib.hid hbS
      clear hown2 hcs hz1' hst1 hP' hbS o1 hb2 e1
      go_wp2_with fail
      go_roundw
      case rel => exact ⟨k + 1, _, bl', by omega, by go_num, Hst1.out, HP'.out, HbS.out⟩
      case measure => simp [intOf]; omega
    · obtain rfl : k = n := by omega
      have HF := Lib.hid (show RsCopy w.heap.size wr.heap.size wr (.slice (some ⟨w.heap.size, 0, none⟩) k k) k ts from ⟨_, cs, bl, rfl, Hl.out.symm, hrow, hP⟩)
      have Hbel := Lib.hid hbel
      clear hrow hP hbel
      go_wp2_with fail
      go_ret
      exact ⟨_, rfl, HF.out, Hbel.out⟩

set_option maxHeartbeats 2000000 in
theorem eqIntSSa_same (a1 a2 : Option Addr) (n c1 c2 : Nat) (ts : List (List Int)) (w : World) (hb : n ≤ 1048576) (hbl : ∀ t ∈ ts, t.length ≤ 1048576) (h1 : SlR w a1 n c1 ts) (h2 : SlR w a2 n c2 ts) :
    Calls Tryd.prog 16 #[.slice a1 n c1, .slice a2 n c2] w fun e w' => e = .returned (.bool true) ∧ Below w.heap.size w w' := by
  have Hl := Lib.hid h1.1
  have H1 := Lib.hid h1
  have H2 := Lib.hid h2
  have HBL := Lib.hid hbl
  clear h1 h2 hbl
  go_enter Tryd.func16, Tryd.ntmps16
  go_wp2_with fail
  go_loopw [5] (fun i wr => ∃ (k : Nat), k ≤ n ∧ i = .int .i64 k ∧ Below w.heap.size w wr) (fun i _ => n - (intOf i).toNat)
  case atStart => exact ⟨0, Nat.zero_le _, rfl, Below.refl _ _⟩
  case round =>
    obtain ⟨k, hk, rfl, hbel⟩ := hrel
    by_cases hlt : k < n
    · obtain ⟨t, ht⟩ : ∃ t, ts[k]? = some t := ⟨ts[k]'(by rw [Hl.out]; exact hlt), List.getElem?_eq_getElem _⟩
      obtain ⟨b, off, rfl, hat⟩ := (H1.out.below hbel).2.2.2 (by omega)
      obtain ⟨p1, m1, q1, e1, s1⟩ := hat k t ht
      obtain ⟨b', off', rfl, hat'⟩ := (H2.out.below hbel).2.2.2 (by omega)
      obtain ⟨p3, m3, q3, e3, s3⟩ := hat' k t ht
      have hm := HBL.out t (List.mem_of_getElem? ht)
      have hd0 : Below wr.heap.size wr wr.drew := (Below.refl _ _).drew
      have k1 := Lib.hid (eqIntS_any p1 p3 m1 q1 m3 q3 t t wr.drew (by rw [← s1.1]; omega) (s1.below hd0) (s3.below hd0))
      rw [eqB_refl] at k1
      have Hl1 := Lib.hid (And.intro (cell_in e1) (cell_in e3))
      have Hbel := Lib.hid hbel
      clear ht s1 s3 hat hat' hbel hm
      go_wp2_with fail
      go_region_held3 (fun w' => w'.cell? ⟨b, off + k, none⟩ = some (.slice p1 m1 q1) ∧ w'.cell? ⟨b', off' + k, none⟩ = some (.slice p3 m3 q3)) (first | go_keep | exact ⟨kS0, kS1⟩)
        ((first
          | (go_at_call 9; (with_reducible refine (k1.out).mono ?_); rintro ee w2 ⟨rfl, hb2⟩; have hb2' : Below wr.heap.size wr w2 := hd0.trans hb2; have kS0 := (hb2'.cell (p := ⟨b, off + k, none⟩) Hl1.out.1).trans e1; have kS1 := (hb2'.cell (p := ⟨b', off' + k, none⟩) Hl1.out.2).trans e3)
          | fail))
      have HbA := Lib.hid (Hbel.out.trans (hb2'.mono Hbel.out.size))
      clear hb2 hb2' kS0 kS1
      go_wp2_with fail
      go_roundw
      case rel => exact ⟨k + 1, by omega, by go_num, HbA.out⟩
      case measure => simp [intOf]; omega
    · obtain rfl : k = n := by omega
      go_wp2_with fail
      go_ret
      exact ⟨rfl, hbel⟩

theorem RsP.lt {w : World} {B U g n : Nat} {ts : List (List Int)} {cs : List Value} {bl : Nat → Nat} (h : RsP w B U g n ts cs bl) (hl : n = ts.length) {i : Nat} (hi : i < n) : bl i < w.heap.size := by
  obtain ⟨t, ht⟩ : ∃ t, ts[i]? = some t := ⟨ts[i]'(by omega), List.getElem?_eq_getElem _⟩
  exact ((h.1 i t hi ht).2.lt _ rfl).2
theorem RsCopy.mid {B U B0 U0 : Nat} {w w' : World} {v : Value} {n : Nat} {ts : List (List Int)} (h : RsCopy B U w v n ts) (hm : Mid B0 U0 w w') (hU : U0 ≤ B) : RsCopy B U w' v n ts := by
  obtain ⟨g, cs, bl, h1, h2, h3, h4, h5⟩ := h
  exact ⟨g, cs, bl, h1, h2, hm.own h3 hU, fun j t hj ht => ⟨(h4 j t hj ht).1, hm.own (h4 j t hj ht).2 hU⟩, h5⟩


end Go.Proofs.YtfigkfcdfmoihaaDoor

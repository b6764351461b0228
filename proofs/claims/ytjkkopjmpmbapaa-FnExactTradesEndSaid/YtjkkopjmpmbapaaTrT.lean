/- The laws' own helpers for slices of rules: sizes, copies, comparisons, marks. -/
import Derived.Test.YtjkkopjmpmbapaaTrS
import Derived.Deep.RegionHeld3
namespace Go.Proofs.Ytjkkopjmpmbapaa
set_option maxRecDepth 100000
open Go.RowKit

def szTs : List Tr → Nat
  | [] => 0
  | t :: r => t.take.length + t.give.length + szTs r
theorem szTs_snoc (l : List Tr) (t : Tr) : szTs (l ++ [t]) = szTs l + (t.take.length + t.give.length) := by
  induction l with
  | nil => simp [szTs]
  | cons y l ih => simp only [List.cons_append, szTs, ih]; omega
theorem szTs_take {l : List Tr} {k : Nat} {t : Tr} (h : l[k]? = some t) : szTs (l.take (k + 1)) = szTs (l.take k) + (t.take.length + t.give.length) := by
  obtain ⟨hk, he⟩ := List.getElem?_eq_some_iff.1 h
  rw [List.take_succ_eq_append_getElem hk, he, szTs_snoc]
theorem szTs_le (l : List Tr) (k : Nat) : szTs (l.take k) ≤ szTs l := by
  induction l generalizing k with
  | nil => simp [szTs]
  | cons y l ih =>
    cases k with
    | zero => simp [szTs]
    | succ k => simp only [List.take_succ_cons, szTs]; have := ih k; omega
theorem szTs_mem {l : List Tr} {t : Tr} (h : t ∈ l) : t.take.length + t.give.length ≤ szTs l := by
  obtain ⟨k, hk⟩ := List.mem_iff_getElem?.1 h
  have h1 := szTs_take hk
  have h2 := szTs_le l (k + 1)
  omega

set_option maxHeartbeats 1000000 in
theorem szTradeS_any (ao : Option Addr) (n c : Nat) (ts : List Tr) (z : Int) (w : World) (h : SlT w ao n c ts) (hz0 : 0 ≤ z) (hz1 : z ≤ 1048576) :
    Calls Try.prog 18 #[.slice ao n c, .int .i64 z] w fun e w' => e = .returned (.int .i64 (szI (n + szTs ts) z)) ∧ Below w.heap.size w w' := by
  have hn9 : n ≤ 9223372036854775807 := by have h1 := h.2.1; have h2 := h.2.2.1; unfold maxLen at h2; omega
  have Hl := Lib.hid h.1
  have H := Lib.hid h
  clear h
  by_cases h0 : (n : Int) ≤ z
  · have h0' : ¬ (z - (n : Int) < 0) := by omega
    obtain ⟨r, hr⟩ : ∃ r, r = szI (n + szTs ts) z := ⟨_, rfl⟩
    rw [← hr]
    have Hr := Lib.hid hr
    clear hr
    go_enter Try.func18, Try.ntmps18
    go_wp2_with fail
    go_loopw [1, 5] (fun v1 i wr => ∃ (k : Nat) (y : Int), k ≤ n ∧ i = .int .i64 k ∧ v1 = .int .i64 y ∧ 0 ≤ y ∧ Hid (y = z - n - szTs (ts.take k)) ∧ Below w.heap.size w wr) (fun _ i _ => n - (intOf i).toNat)
    case atStart => exact ⟨0, z - n, Nat.zero_le _, rfl, rfl, by omega, Lib.hid (by simp [szTs]), Below.refl _ _⟩
    case round =>
      obtain ⟨k, y, hk, rfl, rfl, hy0, HY, hbel⟩ := hrel
      have hy1 : y ≤ 1048576 := by have := HY.out; omega
      by_cases hlt : k < n
      · obtain ⟨t, ht⟩ : ∃ t, ts[k]? = some t := ⟨ts[k]'(by rw [Hl.out]; exact hlt), List.getElem?_eq_getElem _⟩
        obtain ⟨b, off, rfl, hat⟩ := (H.out.below hbel).2.2.2 (by omega)
        obtain ⟨a1, n1, c1, a2, n2, c2, e1, e2, s1, s2⟩ := hat k t ht
        have m1 : n1 ≤ 9223372036854775807 := by have h1 := s1.2.1; have h2 := s1.2.2.1; unfold maxLen at h2; omega
        have m2 : n2 ≤ 9223372036854775807 := by have h1 := s2.2.1; have h2 := s2.2.2.1; unfold maxLen at h2; omega
        have k1 := Lib.hid (szTrade_any a1 a2 n1 c1 n2 c2 y wr m1 m2 hy0 hy1)
        have hstep := szTs_take ht
        rw [s1.1, s2.1] at hstep
        have Hstep := Lib.hid hstep
        have Hle := Lib.hid (szTs_le ts (k + 1))
        have Hbel := Lib.hid hbel
        clear ht s1 s2 hat hbel hstep
        by_cases hq : ((n1 + n2 : Nat) : Int) ≤ y
        · rw [szI_yes hq] at k1
          obtain ⟨y', hy'⟩ : ∃ y', y' = y - ((n1 + n2 : Nat) : Int) := ⟨_, rfl⟩
          rw [← hy'] at k1
          have hy2 : ¬ (y' < 0) := by omega
          have HY2 := Lib.hid (show y' = z - n - szTs (ts.take (k + 1)) by rw [Hstep.out, hy', HY.out]; push_cast; omega)
          clear hy' hq
          go_wp2_with fail
          refine (k1.out).mono ?_
          rintro ee w2 ⟨rfl, hb2⟩
          have Hb2 := Lib.hid (Hbel.out.trans (hb2.mono Hbel.out.size))
          clear hb2
          go_wp2_with fail
          go_roundw
          case rel => exact ⟨k + 1, y', by omega, by go_num, rfl, by omega, HY2.out, Hb2.out⟩
          case measure => simp [intOf]; omega
        · rw [szI_no hq] at k1
          have hrm : r = -1 := by rw [Hr.out]; exact szI_no (by have h1 := HY.out; have h2 := Hstep.out; have h3 := Hle.out; push_cast; omega)
          subst hrm
          clear hq
          go_wp2_with fail
          refine (k1.out).mono ?_
          rintro ee w2 ⟨rfl, hb2⟩
          have Hb2 := Lib.hid (Hbel.out.trans (hb2.mono Hbel.out.size))
          clear hb2
          go_wp2_with fail
          go_ret
          exact ⟨rfl, Hb2.out⟩
      · obtain rfl : k = n := by omega
        have hrm : r = y := by
          rw [Hr.out]
          have h1 := HY.out
          rw [List.take_of_length_le (by rw [Hl.out]; exact Nat.le_refl _)] at h1
          rw [szI_yes (by push_cast; omega), h1]; push_cast; omega
        subst hrm
        have Hbel := Lib.hid hbel
        clear hbel
        go_wp2_with fail
        go_ret
        exact ⟨rfl, Hbel.out⟩
  · have h0' : z - (n : Int) < 0 := by omega
    rw [szI_no (by push_cast; omega)]
    go_enter Try.func18, Try.ntmps18
    go_wp2_with fail
    go_ret
    exact ⟨rfl, Below.refl _ _⟩

/-- Rules that were copied so far: their rows lie in blocks of their own, one behind the other, behind the slice's own block g. -/
def TsP (w : World) (B U g k : Nat) (ts : List Tr) (cs : List Value) (bl : Nat → Nat) : Prop :=
  (∀ j t, j < k → ts[j]? = some t → (cs[j * 2]? = some (.slice (some ⟨bl (j * 2), 0, none⟩) t.take.length t.take.length) ∧ cs[j * 2 + 1]? = some (.slice (some ⟨bl (j * 2 + 1), 0, none⟩) t.give.length t.give.length)) ∧
      w.ownsRow B 3 1 (.slice (some ⟨bl (j * 2), 0, none⟩) t.take.length t.take.length) t.take.length (ints t.take) ∧ w.ownsRow B 3 1 (.slice (some ⟨bl (j * 2 + 1), 0, none⟩) t.give.length t.give.length) t.give.length (ints t.give)) ∧
    (∀ i j, i < j → j < k * 2 → bl i < bl j) ∧ (∀ i, i < k * 2 → g < bl i ∧ bl i < U)

theorem TsP.below {w w' : World} {B U g k : Nat} {ts : List Tr} {cs : List Value} {bl : Nat → Nat} (h : TsP w B U g k ts cs bl) (hb : Below w.heap.size w w') : TsP w' B U g k ts cs bl :=
  ⟨fun j t hj ht => ⟨(h.1 j t hj ht).1, ownsRow_below' (h.1 j t hj ht).2.1 hb, ownsRow_below' (h.1 j t hj ht).2.2 hb⟩, h.2.1, h.2.2⟩

/-- A slice of rules that the call made. -/
def TsCopy (B U : Nat) (w : World) (v : Value) (n : Nat) (ts : List Tr) : Prop :=
  ∃ g cs bl, v = .slice (some ⟨g, 0, none⟩) n n ∧ n = ts.length ∧ w.ownsRow B 27 2 (.slice (some ⟨g, 0, none⟩) n n) n cs ∧ TsP w B U g n ts cs bl

theorem TsCopy.below {B U : Nat} {w w' : World} {v : Value} {n : Nat} {ts : List Tr} (h : TsCopy B U w v n ts) (hb : Below w.heap.size w w') : TsCopy B U w' v n ts := by
  obtain ⟨g, cs, bl, h1, h2, h3, h4⟩ := h
  exact ⟨g, cs, bl, h1, h2, ownsRow_below' h3 hb, h4.below hb⟩

theorem TsCopy.parts {B U : Nat} {w : World} {v : Value} {n : Nat} {ts : List Tr} (h : TsCopy B U w v n ts) : ∃ g, v = .slice (some ⟨g, 0, none⟩) n n ∧ SlT w (some ⟨g, 0, none⟩) n n ts := by
  obtain ⟨g, cs, bl, rfl, hn, h3, h4⟩ := h
  refine ⟨g, rfl, hn.symm, Nat.le_refl _, ?_, fun _ => ⟨g, 0, rfl, fun k t hk => ?_⟩⟩
  · rcases h3.2 with ⟨h, _⟩ | ⟨g', cap, cur, h, _, _, _, hm, _⟩
    · cases h
    · cases h
      exact hm
  · have hkn : k < n := by rw [hn]; exact (List.getElem?_eq_some_iff.1 hk).1
    obtain ⟨⟨e1, e2⟩, o1, o2⟩ := h4.1 k t hkn hk
    refine ⟨_, _, _, _, _, _, ?_, ?_, Sl.of_own o1, Sl.of_own o2⟩
    · rw [Nat.zero_add, h3.cellAt _ (by omega)]; exact e1
    · rw [Nat.zero_add, h3.cellAt _ (by omega)]; exact e2

/-- Two more blocks. -/
def upB (bl : Nat → Nat) (k g1 g2 i : Nat) : Nat := if i = k * 2 then g1 else if i = k * 2 + 1 then g2 else bl i
theorem upB_0 (bl : Nat → Nat) (k g1 g2 : Nat) : upB bl k g1 g2 (k * 2) = g1 := if_pos rfl
theorem upB_1 (bl : Nat → Nat) (k g1 g2 : Nat) : upB bl k g1 g2 (k * 2 + 1) = g2 := by rw [upB, if_neg (by omega), if_pos rfl]
theorem upB_o (bl : Nat → Nat) (k g1 g2 : Nat) {i : Nat} (h1 : i ≠ k * 2) (h2 : i ≠ k * 2 + 1) : upB bl k g1 g2 i = bl i := by rw [upB, if_neg h1, if_neg h2]

theorem TsP.step {w w2 : World} {B g k n n1 n2 : Nat} {ts : List Tr} {cs : List Value} {bl : Nat → Nat} {t : Tr} {g1 g2 : Nat} (h : TsP w B w.heap.size g k ts cs bl) (hb : Below w.heap.size w w2) (ht : ts[k]? = some t) (hcs : cs.length = n * 2) (hk : k < n)
    (hn1 : t.take.length = n1) (hn2 : t.give.length = n2) (hg : g < w.heap.size) (hB : B ≤ w.heap.size) (h12 : g1 < g2) (o1 : w2.ownsRow w.heap.size 3 1 (.slice (some ⟨g1, 0, none⟩) n1 n1) n1 (ints t.take)) (o2 : w2.ownsRow w.heap.size 3 1 (.slice (some ⟨g2, 0, none⟩) n2 n2) n2 (ints t.give)) (u1 u2 : Value) :
    ∃ bl', TsP ((w2.setCell ⟨g, k * 2, none⟩ u1).setCell ⟨g, k * 2 + 1, none⟩ u2) B ((w2.setCell ⟨g, k * 2, none⟩ u1).setCell ⟨g, k * 2 + 1, none⟩ u2).heap.size g (k + 1) ts ((cs.set (k * 2) (.slice (some ⟨g1, 0, none⟩) n1 n1)).set (k * 2 + 1) (.slice (some ⟨g2, 0, none⟩) n2 n2)) bl' := by
  subst hn1 hn2
  have l1 := o1.lt g1 rfl
  have l2 := o2.lt g2 rfl
  have hsz : ((w2.setCell ⟨g, k * 2, none⟩ u1).setCell ⟨g, k * 2 + 1, none⟩ u2).heap.size = w2.heap.size := by simp [World.setCell]
  refine ⟨upB bl k g1 g2, ?_, ?_, ?_⟩
  · intro j t' hj ht'
    by_cases hjk : j = k
    · subst hjk
      cases ht.symm.trans ht'
      rw [upB_0, upB_1]
      refine ⟨⟨?_, ?_⟩, ?_, ?_⟩
      · rw [List.getElem?_set_ne (by omega), List.getElem?_set_self (by omega)]
      · rw [List.getElem?_set_self (by rw [List.length_set]; omega)]
      · exact Joins.ownsRow_le (ownsRow_setCell_other (ownsRow_setCell_other o1 (a := ⟨g, j * 2, none⟩) (by simp [Value.ownBlock]; omega) u1) (a := ⟨g, j * 2 + 1, none⟩) (by simp [Value.ownBlock]; omega) u2) hB
      · exact Joins.ownsRow_le (ownsRow_setCell_other (ownsRow_setCell_other o2 (a := ⟨g, j * 2, none⟩) (by simp [Value.ownBlock]; omega) u1) (a := ⟨g, j * 2 + 1, none⟩) (by simp [Value.ownBlock]; omega) u2) hB
    · obtain ⟨⟨e1, e2⟩, q1, q2⟩ := h.1 j t' (by omega) ht'
      rw [upB_o bl k g1 g2 (i := j * 2) (by omega) (by omega), upB_o bl k g1 g2 (i := j * 2 + 1) (by omega) (by omega)]
      have p1 := (h.2.2 (j * 2) (by omega)).1
      have p2 := (h.2.2 (j * 2 + 1) (by omega)).1
      refine ⟨⟨?_, ?_⟩, ?_, ?_⟩
      · rw [List.getElem?_set_ne (by omega), List.getElem?_set_ne (by omega)]; exact e1
      · rw [List.getElem?_set_ne (by omega), List.getElem?_set_ne (by omega)]; exact e2
      · exact ownsRow_setCell_other (ownsRow_setCell_other (ownsRow_below' q1 hb) (a := ⟨g, k * 2, none⟩) (by simp [Value.ownBlock]; omega) u1) (a := ⟨g, k * 2 + 1, none⟩) (by simp [Value.ownBlock]; omega) u2
      · exact ownsRow_setCell_other (ownsRow_setCell_other (ownsRow_below' q2 hb) (a := ⟨g, k * 2, none⟩) (by simp [Value.ownBlock]; omega) u1) (a := ⟨g, k * 2 + 1, none⟩) (by simp [Value.ownBlock]; omega) u2
  · intro i j hij hj
    have hbl : ∀ i, i < k * 2 → bl i < w.heap.size := fun i hi => (h.2.2 i hi).2
    by_cases j1 : j = k * 2
    · have := hbl i (by omega)
      rw [j1, upB_0, upB_o bl k g1 g2 (i := i) (by omega) (by omega)]
      omega
    · by_cases j2 : j = k * 2 + 1
      · rw [j2, upB_1]
        by_cases i1 : i = k * 2
        · rw [i1, upB_0]; exact h12
        · have := hbl i (by omega)
          rw [upB_o bl k g1 g2 (i := i) i1 (by omega)]
          omega
      · rw [upB_o bl k g1 g2 (i := i) (by omega) (by omega), upB_o bl k g1 g2 (i := j) j1 j2]
        exact h.2.1 i j hij (by omega)
  · intro i hi
    rw [hsz]
    by_cases i1 : i = k * 2
    · rw [i1, upB_0]; omega
    · by_cases i2 : i = k * 2 + 1
      · rw [i2, upB_1]; omega
      · rw [upB_o bl k g1 g2 i1 i2]
        have := h.2.2 i (by omega)
        have := hb.size
        omega

theorem info_trade : (Try.prog.info? 27).map (fun i => (i.zero, i.size, i.bytes)) = some (some (.agg #[.slice none 0 0, .slice none 0 0]), 2, 48) := by kernel_rfl

set_option maxHeartbeats 2000000 in
theorem toTradeS_any (ao : Option Addr) (n c : Nat) (ts : List Tr) (w : World) (hb : n ≤ 1048576) (hbl : ∀ t ∈ ts, t.take.length ≤ 1048576 ∧ t.give.length ≤ 1048576) (h : SlT w ao n c ts) :
    Calls Try.prog 20 #[.slice ao n c] w fun e w' => ∃ v, e = .returned v ∧ TsCopy w.heap.size w'.heap.size w' v n ts ∧ Below w.heap.size w w' := by
  obtain ⟨i0, hi, hz0, hz1, hz2⟩ := info_parts info_trade
  have Hl := Lib.hid h.1
  have H := Lib.hid h
  have HBL := Lib.hid hbl
  clear h hbl
  go_enter Try.func20, Try.ntmps20
  go_wp2_with (first
    | (at_make; refine wpList_make_full _ rfl (.tmp 6) (.tmp 6) 34 rfl w.heap.size 27 i0 _ 2 Try.underlying34 hi hz0 hz1 .i64 .i64 _ _ n rfl rfl rfl rfl (by rw [hz2]; omega) (by unfold maxLen; omega) (Nat.le_refl _) ?_; intro w1 hown hg1))
  have hb1 : Below w.heap.size w w1 := (Below.refl _ _).grown hg1 (Nat.le_refl _) (fun k hk => by cases hk)
  have hgl := (hown.lt w.heap.size rfl).2
  go_loopw [4] (fun i wr => ∃ (k : Nat) (cs : List Value) (bl : Nat → Nat), k ≤ n ∧ i = .int .i64 k ∧ wr.ownsRow w.heap.size 27 2 (.slice (some ⟨w.heap.size, 0, none⟩) n n) n cs ∧ TsP wr w.heap.size wr.heap.size w.heap.size k ts cs bl ∧ Below w.heap.size w wr) (fun i _ => n - (intOf i).toNat)
  case atStart => exact ⟨0, _, fun _ => 0, Nat.zero_le _, rfl, hown, ⟨fun j t hj => by omega, fun i j _ hj => by omega, fun i hi => by omega⟩, hb1⟩
  case round =>
    obtain ⟨k, cs, bl, hk, rfl, hrow, hP, hbel⟩ := hrel
    by_cases hlt : k < n
    · obtain ⟨t, ht⟩ : ∃ t, ts[k]? = some t := ⟨ts[k]'(by rw [Hl.out]; exact hlt), List.getElem?_eq_getElem _⟩
      obtain ⟨b, off, rfl, hat⟩ := (H.out.below hbel).2.2.2 (by omega)
      obtain ⟨a1, n1, c1, a2, n2, c2, e1, e2, s1, s2⟩ := hat k t ht
      have hm := HBL.out t (List.mem_of_getElem? ht)
      have hm1 : n1 ≤ 1048576 := by rw [← s1.1]; exact hm.1
      have hm2 : n2 ≤ 1048576 := by rw [← s2.1]; exact hm.2
      have k1 := Lib.hid (toTrade_any a1 a2 n1 c1 n2 c2 t wr (by omega) (by omega) s1 s2)
      have Hl1 := Lib.hid s1.1
      have Hl2 := Lib.hid s2.1
      have Hrow := Lib.hid hrow
      have HP := Lib.hid hP
      have Hbel := Lib.hid hbel
      have Ht := Lib.hid ht
      clear ht s1 s2 hat hbel hm hrow hP
      go_wp2_with fail
      refine (k1.out).mono ?_
      rintro ee w2 ⟨v, rfl, hc, hb2⟩
      obtain ⟨g1, g2, rfl, h12, o1, o2⟩ := hc
      have hown2 := ownsRow_below' Hrow.out hb2
      have hcs : cs.length = n * 2 := hown2.1
      obtain ⟨z1, hz1'⟩ : ∃ z, cs[k * 2]? = some z := ⟨_, List.getElem?_eq_getElem (by omega)⟩
      obtain ⟨z2, hz2'⟩ : ∃ z, cs[k * 2 + 1]? = some z := ⟨_, List.getElem?_eq_getElem (by omega)⟩
      have hst1 := (hown2.stored (k * 2) (.slice (some ⟨g1, 0, none⟩) n1 n1)).1
      have hst2 := (hst1.stored (k * 2 + 1) (.slice (some ⟨g2, 0, none⟩) n2 n2)).1
      have d1 : w2.cell? ⟨w.heap.size, k * 2, none⟩ = some z1 := by rw [hown2.cellAt _ (by omega)]; exact hz1'
      have f1 := hown2.frozenAt (k * 2)
      have d2 : (w2.setCell ⟨w.heap.size, k * 2, none⟩ (.slice (some ⟨g1, 0, none⟩) n1 n1)).cell? ⟨w.heap.size, k * 2 + 1, none⟩ = some z2 := by rw [hst1.cellAt _ (by omega), List.getElem?_set_ne (by omega)]; exact hz2'
      have f2 := hst1.frozenAt (k * 2 + 1)
      obtain ⟨bl', hP'⟩ := HP.out.step hb2 Ht.out hcs hlt Hl1.out Hl2.out (Hrow.out.lt w.heap.size rfl).2 Hbel.out.size h12 o1 o2 (.slice (some ⟨g1, 0, none⟩) n1 n1) (.slice (some ⟨g2, 0, none⟩) n2 n2)
      have hbS := ((Hbel.out.trans (hb2.mono Hbel.out.size)).setCell (p := ⟨w.heap.size, k * 2, none⟩) (Nat.le_refl _) (.slice (some ⟨g1, 0, none⟩) n1 n1)).setCell (p := ⟨w.heap.size, k * 2 + 1, none⟩) (Nat.le_refl _) (.slice (some ⟨g2, 0, none⟩) n2 n2)
      have Hst2 := Lib.hid hst2
      have HP' := Lib.hid hP'
      have HbS := Lib.hid hbS
      clear hown2 hcs hz1' hz2' hst1 hst2 hP' hbS o1 o2 h12 hb2 e1 e2
      go_wp2_with fail
      go_roundw
      case rel => exact ⟨k + 1, _, bl', by omega, by go_num, Hst2.out, HP'.out, HbS.out⟩
      case measure => simp [intOf]; omega
    · obtain rfl : k = n := by omega
      have HF := Lib.hid (show TsCopy w.heap.size wr.heap.size wr (.slice (some ⟨w.heap.size, 0, none⟩) k k) k ts from ⟨_, cs, bl, rfl, Hl.out.symm, hrow, hP⟩)
      have Hbel := Lib.hid hbel
      clear hrow hP hbel
      go_wp2_with fail
      go_ret
      exact ⟨_, rfl, HF.out, Hbel.out⟩

set_option maxHeartbeats 2000000 in
theorem eqTradeS_same (a1 a2 : Option Addr) (n c1 c2 : Nat) (ts : List Tr) (w : World) (hb : n ≤ 1048576) (hbl : ∀ t ∈ ts, t.take.length ≤ 1048576 ∧ t.give.length ≤ 1048576) (h1 : SlT w a1 n c1 ts) (h2 : SlT w a2 n c2 ts) :
    Calls Try.prog 22 #[.slice a1 n c1, .slice a2 n c2] w fun e w' => e = .returned (.bool true) ∧ Below w.heap.size w w' := by
  have Hl := Lib.hid h1.1
  have H1 := Lib.hid h1
  have H2 := Lib.hid h2
  have HBL := Lib.hid hbl
  clear h1 h2 hbl
  go_enter Try.func22, Try.ntmps22
  go_wp2_with fail
  go_loopw [5] (fun i wr => ∃ (k : Nat), k ≤ n ∧ i = .int .i64 k ∧ Below w.heap.size w wr) (fun i _ => n - (intOf i).toNat)
  case atStart => exact ⟨0, Nat.zero_le _, rfl, Below.refl _ _⟩
  case round =>
    obtain ⟨k, hk, rfl, hbel⟩ := hrel
    by_cases hlt : k < n
    · obtain ⟨t, ht⟩ : ∃ t, ts[k]? = some t := ⟨ts[k]'(by rw [Hl.out]; exact hlt), List.getElem?_eq_getElem _⟩
      obtain ⟨b, off, rfl, hat⟩ := (H1.out.below hbel).2.2.2 (by omega)
      obtain ⟨p1, m1, q1, p2, m2, q2, e1, e2, s1, s2⟩ := hat k t ht
      obtain ⟨b', off', rfl, hat'⟩ := (H2.out.below hbel).2.2.2 (by omega)
      obtain ⟨p3, m3, q3, p4, m4, q4, e3, e4, s3, s4⟩ := hat' k t ht
      have hm := HBL.out t (List.mem_of_getElem? ht)
      have hd0 : Below wr.heap.size wr wr.drew := (Below.refl _ _).drew
      have k1 := Lib.hid (eqTrade_same p1 p2 p3 p4 m1 q1 m2 q2 m3 q3 m4 q4 t wr.drew (by rw [← s1.1]; omega) (by rw [← s2.1]; omega) (s1.below hd0) (s2.below hd0) (s3.below hd0) (s4.below hd0))
      have Hl1 := Lib.hid (And.intro (cell_in e1) (cell_in e3))
      have Hbel := Lib.hid hbel
      clear ht s1 s2 s3 s4 hat hat' hbel hm
      go_wp2_with fail
      go_region_held3 (fun w' => (w'.cell? ⟨b, off + k * 2, none⟩ = some (.slice p1 m1 q1) ∧ w'.cell? ⟨b, off + k * 2 + 1, none⟩ = some (.slice p2 m2 q2)) ∧ w'.cell? ⟨b', off' + k * 2, none⟩ = some (.slice p3 m3 q3) ∧ w'.cell? ⟨b', off' + k * 2 + 1, none⟩ = some (.slice p4 m4 q4)) (first | go_keep | exact ⟨⟨kS0, kS1⟩, kS2, kS3⟩)
        ((first
          | (go_at_call 17; (with_reducible refine (k1.out).mono ?_); rintro ee w2 ⟨rfl, hb2⟩; have hb2' : Below wr.heap.size wr w2 := hd0.trans hb2; have kS0 := (hb2'.cell (p := ⟨b, off + k * 2, none⟩) Hl1.out.1).trans e1; have kS1 := (hb2'.cell (p := ⟨b, off + k * 2 + 1, none⟩) Hl1.out.1).trans e2; have kS2 := (hb2'.cell (p := ⟨b', off' + k * 2, none⟩) Hl1.out.2).trans e3; have kS3 := (hb2'.cell (p := ⟨b', off' + k * 2 + 1, none⟩) Hl1.out.2).trans e4)
          | fail))
      have HbA := Lib.hid (Hbel.out.trans (hb2'.mono Hbel.out.size))
      clear hb2 hb2' kS0 kS1 kS2 kS3
      go_wp2_with fail
      go_roundw
      case rel => exact ⟨k + 1, by omega, by go_num, HbA.out⟩
      case measure => simp [intOf]; omega
    · obtain rfl : k = n := by omega
      go_wp2_with fail
      go_ret
      exact ⟨rfl, hbel⟩

/-- Below B and from U on the world is as it was. -/
structure Mid (B U : Nat) (w w' : World) : Prop where
  below : Below B w w'
  keep : ∀ k, U ≤ k → k < w.heap.size → w'.heap[k]? = w.heap[k]?
theorem Mid.refl (B U : Nat) (w : World) : Mid B U w w := ⟨Below.refl _ _, fun _ _ _ => rfl⟩
theorem Mid.trans {B U : Nat} {a b c : World} (h : Mid B U a b) (k : Mid B U b c) : Mid B U a c :=
  ⟨h.below.trans k.below, fun i h1 h2 => (k.keep i h1 (Nat.lt_of_lt_of_le h2 h.below.size)).trans (h.keep i h1 h2)⟩
theorem Mid.of_grown {B U g : Nat} {w w' : World} (hb : Below B w w') (hg : w.grownBy w' (some g)) (hU : g < U) : Mid B U w w' :=
  ⟨hb, fun k h1 h2 => hg.block k h2 (fun e => by cases e; omega)⟩
theorem Mid.mono {B B' U U' : Nat} {w w' : World} (h : Mid B U w w') (hB : B' ≤ B) (hU : U ≤ U') : Mid B' U' w w' := ⟨h.below.mono hB, fun k h1 h2 => h.keep k (by omega) h2⟩
theorem own_same {w w' : World} {B e n size g cap : Nat} {xs : List Value} (h : w.ownsRow B e size (.slice (some ⟨g, 0, none⟩) n cap) n xs) (hb : w'.heap[g]? = w.heap[g]?) : w'.ownsRow B e size (.slice (some ⟨g, 0, none⟩) n cap) n xs := by
  refine ⟨h.1, ?_⟩
  rcases h.2 with ⟨h1, _⟩ | ⟨g', c', cur, h1, h2, h3, h4⟩
  · cases h1
  · cases h1
    exact .inr ⟨g, cap, cur, rfl, h2, by rw [hb]; exact h3, h4⟩
theorem Mid.own {B U Bo e n size : Nat} {w w' : World} {v : Value} {xs : List Value} (h : Mid B U w w') (ho : w.ownsRow Bo e size v n xs) (hU : U ≤ Bo) : w'.ownsRow Bo e size v n xs := by
  obtain ⟨h1, h2⟩ := ho
  refine ⟨h1, ?_⟩
  rcases h2 with h2 | ⟨g, cap, cur, hv, hg, hh, r⟩
  · exact .inl h2
  · exact .inr ⟨g, cap, cur, hv, hg, by rw [h.keep g (by omega) (Array.getElem?_eq_some_iff.1 hh).1]; exact hh, r⟩

theorem TsP.lt {w : World} {B U g n : Nat} {ts : List Tr} {cs : List Value} {bl : Nat → Nat} (h : TsP w B U g n ts cs bl) (hl : n = ts.length) {i : Nat} (hi : i < n * 2) : bl i < w.heap.size := by
  obtain ⟨t, ht⟩ : ∃ t, ts[i / 2]? = some t := ⟨ts[i / 2]'(by omega), List.getElem?_eq_getElem _⟩
  obtain ⟨_, o1, o2⟩ := h.1 (i / 2) t (by omega) ht
  have hc : i = i / 2 * 2 ∨ i = i / 2 * 2 + 1 := by omega
  rcases hc with h1 | h1
  · rw [h1]; exact (o1.lt _ rfl).2
  · rw [h1]; exact (o2.lt _ rfl).2

theorem TsCopy.mid {B U B0 U0 : Nat} {w w' : World} {v : Value} {n : Nat} {ts : List Tr} (h : TsCopy B U w v n ts) (hm : Mid B0 U0 w w') (hU : U0 ≤ B) : TsCopy B U w' v n ts := by
  obtain ⟨g, cs, bl, h1, h2, h3, h4, h5⟩ := h
  exact ⟨g, cs, bl, h1, h2, hm.own h3 hU, fun j t hj ht => ⟨(h4 j t hj ht).1, hm.own (h4 j t hj ht).2.1 hU, hm.own (h4 j t hj ht).2.2 hU⟩, h5⟩

theorem TsP.same {w w' : World} {B U g n k : Nat} {ts : List Tr} {cs : List Value} {bl : Nat → Nat} {t : Tr} (h : TsP w B U g n ts cs bl) (hk : k < n) (ht : ts[k]? = some t) (hs : ∀ i, k * 2 ≤ i → i < n * 2 → w'.heap[bl i]? = w.heap[bl i]?) :
    w'.ownsRow B 3 1 (.slice (some ⟨bl (k * 2), 0, none⟩) t.take.length t.take.length) t.take.length (ints t.take) ∧ w'.ownsRow B 3 1 (.slice (some ⟨bl (k * 2 + 1), 0, none⟩) t.give.length t.give.length) t.give.length (ints t.give) := by
  obtain ⟨_, o1, o2⟩ := h.1 k t hk ht
  exact ⟨own_same o1 (hs _ (Nat.le_refl _) (by omega)), own_same o2 (hs _ (by omega) (by omega))⟩

set_option maxHeartbeats 2000000 in
theorem markTradeS_any (B U : Nat) (v : Value) (n : Nat) (ts : List Tr) (k0 : Int) (w : World) (hn : n ≤ 1048576) (hsz : szTs ts ≤ 1048576) (hk0 : 0 ≤ k0) (hk1 : k0 ≤ 10000000) (h : TsCopy B U w v n ts) :
    Calls Try.prog 42 #[v, .int .i64 k0] w fun e w' => ∃ z : Int, e = .returned (.int .i64 z) ∧ 0 ≤ z ∧ z ≤ k0 + szTs ts ∧ Mid B U w w' := by
  obtain ⟨g, cs, bl, rfl, hl, hrow, hP⟩ := h
  have Hl := Lib.hid hl
  have Hrow := Lib.hid hrow
  have HP := Lib.hid hP
  have hgl := hrow.lt g rfl
  clear hl hrow hP
  go_enter Try.func42, Try.ntmps42
  go_wp2_with fail
  go_loopw [1, 5] (fun v1 i wr => ∃ (k : Nat) (y : Int), k ≤ n ∧ i = .int .i64 k ∧ v1 = .int .i64 y ∧ 0 ≤ y ∧ Hid (y ≤ k0 + szTs (ts.take k)) ∧ Mid B U w wr ∧ wr.heap[g]? = w.heap[g]? ∧ Hid (∀ i, k * 2 ≤ i → i < n * 2 → wr.heap[bl i]? = w.heap[bl i]?)) (fun _ i _ => n - (intOf i).toNat)
  case atStart => exact ⟨0, k0, Nat.zero_le _, rfl, rfl, hk0, Lib.hid (by simp [szTs]), Mid.refl _ _ _, rfl, Lib.hid (fun _ _ _ => rfl)⟩
  case round =>
    obtain ⟨k, y, hk, rfl, rfl, hy0, HY, hmid, hgs, HS⟩ := hrel
    by_cases hlt : k < n
    · obtain ⟨t, ht⟩ : ∃ t, ts[k]? = some t := ⟨ts[k]'(by rw [← Hl.out]; exact hlt), List.getElem?_eq_getElem _⟩
      have hstep := szTs_take ht
      have hle := szTs_le ts (k + 1)
      have hy1 : y + t.take.length + t.give.length ≤ 11048576 := by have := HY.out; omega
      obtain ⟨⟨e1, e2⟩, _, _⟩ := HP.out.1 k t hlt ht
      obtain ⟨o1, o2⟩ := HP.out.same hlt ht HS.out
      have hrw := own_same Hrow.out hgs
      have x1 : wr.cell? ⟨g, k * 2, none⟩ = some (.slice (some ⟨bl (k * 2), 0, none⟩) t.take.length t.take.length) := by rw [hrw.cellAt _ (by omega)]; exact e1
      have b1 := HP.out.2.2 (k * 2) (by omega)
      have b2 := HP.out.2.2 (k * 2 + 1) (by omega)
      have b12 := HP.out.2.1 (k * 2) (k * 2 + 1) (by omega) (by omega)
      have l1 := o1.lt _ rfl
      obtain ⟨n1, hn1⟩ : ∃ x, x = t.take.length := ⟨_, rfl⟩
      obtain ⟨n2, hn2⟩ : ∃ x, x = t.give.length := ⟨_, rfl⟩
      obtain ⟨g1, hg1⟩ : ∃ x, x = bl (k * 2) := ⟨_, rfl⟩
      obtain ⟨g2, hg2⟩ : ∃ x, x = bl (k * 2 + 1) := ⟨_, rfl⟩
      rw [← hg1] at b1 b12 l1
      have L1 := Lib.hid l1
      clear l1
      rw [← hg2] at b2 b12
      rw [← hn1, ← hn2] at hy1 hstep
      rw [← hn1, ← hg1] at x1 o1
      rw [← hn2, ← hg2] at o2 e2
      have E2 := Lib.hid e2
      have Hg1 := Lib.hid hg1
      have Hg2 := Lib.hid hg2
      have km := Lib.hid (markIntS_any B (some ⟨g1, 0, none⟩) n1 n1 t.take y wr (by omega) hy0 (by omega) o1)
      have Hmid := Lib.hid hmid
      have Hgs := Lib.hid hgs
      have O2 := Lib.hid o2
      have Hstep := Lib.hid hstep
      have B1 := Lib.hid b1
      have B2 := Lib.hid b2
      have B12 := Lib.hid b12
      have Hy1 := Lib.hid hy1
      clear ht hle e1 e2 o1 o2 hrw b1 b2 b12 hn1 hn2 hg1 hg2 hmid hgs hstep hy1
      go_wp2_with fail
      refine (km.out).mono ?_
      rintro ee w2 ⟨rfl, _, hb2, hg2'⟩
      have o2' := O2.out.kept hg2' (.inr (by simp [Value.ownBlock]; have := B12.out; omega))
      have hlt2 : g < w2.heap.size ∧ g1 < wr.heap.size := ⟨Nat.lt_of_lt_of_le (Nat.lt_of_lt_of_le hgl.2 Hmid.out.below.size) hb2.size, L1.out.2⟩
      have hgg : w2.heap[g]? = w.heap[g]? := (hg2'.block g (Nat.lt_of_lt_of_le hgl.2 Hmid.out.below.size) (by simp [Value.ownBlock]; have := B1.out.1; omega)).trans Hgs.out
      have hrw := own_same Hrow.out hgg
      have x2 : w2.cell? ⟨g, k * 2 + 1, none⟩ = some (.slice (some ⟨g2, 0, none⟩) n2 n2) := by
        rw [hrw.cellAt _ (by omega)]
        exact E2.out
      have km2 := Lib.hid (markIntS_any B (some ⟨g2, 0, none⟩) n2 n2 t.give (y + n1) w2 (by have := Hy1.out; omega) (by omega) (by have := Hy1.out; omega) o2')
      have Hmid2 := Lib.hid (Hmid.out.trans (Mid.of_grown hb2 hg2' B1.out.2))
      have Hgg := Lib.hid hgg
      have Hg2' := Lib.hid hg2'
      have Hlt2 := Lib.hid hlt2
      have Hs2 := Lib.hid hb2.size
      clear hb2 o2' hgg hg2' hrw hlt2 x1
      go_wp2_with fail
      refine (km2.out).mono ?_
      rintro ee w3 ⟨rfl, _, hb3, hg3⟩
      have hg3g : w3.heap[g]? = w.heap[g]? := (hg3.block g Hlt2.out.1 (by simp [Value.ownBlock]; have := B2.out.1; omega)).trans Hgg.out
      have hS3 : ∀ i, (k + 1) * 2 ≤ i → i < n * 2 → w3.heap[bl i]? = w.heap[bl i]? := fun i h1 h2 => by
        have q1 := HP.out.2.1 (k * 2 + 1) i (by omega) h2
        have q2 := HP.out.2.1 (k * 2) i (by omega) h2
        rw [← Hg2.out] at q1
        rw [← Hg1.out] at q2
        have q4 : bl i < wr.heap.size := Nat.lt_of_lt_of_le (HP.out.lt Hl.out h2) Hmid.out.below.size
        rw [hg3.block (bl i) (Nat.lt_of_lt_of_le q4 Hs2.out) (by simp [Value.ownBlock]; omega), Hg2'.out.block (bl i) q4 (by simp [Value.ownBlock]; omega)]
        exact HS.out i (by omega) h2
      have Hmid3 := Lib.hid (Hmid2.out.trans (Mid.of_grown hb3 hg3 B2.out.2))
      have HY3 := Lib.hid (show y + n1 + n2 ≤ k0 + szTs (ts.take (k + 1)) by rw [Hstep.out]; have := HY.out; push_cast; omega)
      have Hg3g := Lib.hid hg3g
      have HS3 := Lib.hid hS3
      clear hb3 hg3 hg3g hS3 x2
      go_wp2_with fail
      go_roundw
      case rel => exact ⟨k + 1, y + n1 + n2, by omega, by go_num, rfl, by omega, HY3.out, Hmid3.out, Hg3g.out, HS3.out⟩
      case measure => simp [intOf]; omega
    · obtain rfl : k = n := by omega
      have HZ := Lib.hid (show y ≤ k0 + szTs ts by have h1 := HY.out; rw [List.take_of_length_le (by rw [← Hl.out]; exact Nat.le_refl _)] at h1; exact h1)
      have Hmid := Lib.hid hmid
      clear hmid hgs
      go_wp2_with fail
      go_ret
      exact ⟨y, rfl, hy0, HZ.out, Hmid.out⟩

end Go.Proofs.Ytjkkopjmpmbapaa

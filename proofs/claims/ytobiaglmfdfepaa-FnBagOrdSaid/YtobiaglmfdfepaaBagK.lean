/- Multisets: their ordinals, by the program. -/
import Derived.Test.YtobiaglmfdfepaaBagJ
import Derived.Test.YtobiaglmfdfepaaBagPM
import Derived.Test.YtobiaglmfdfepaaPost
import Derived.Test.YtobiaglmfdfepaaGdKit
namespace Go.Proofs.Ytobiaglmfdfepaa
set_option maxRecDepth 100000
open Go.RowKit

/-- The sum of the first numbers: nil at first. -/
def BoL (w : World) (xs : List Int) (k : Nat) (v : Value) (wr : World) : Prop :=
  (∃ (a : Option Addr) (n c : Nat), v = .slice a n c ∧ ((k = 0 ∧ a = none ∧ n = 0 ∧ c = 0) ∨ ∃ (g : Nat) (cs : List Value), a = some ⟨g, 0, none⟩ ∧ Tz wr g n c (T.cts (xs.take k) 10) cs)) ∧ Below w.heap.size w wr
theorem T.nf_times' {t : T} (h : t.Nf) : ∀ x ∈ t.times, 1 ≤ x ∧ x ≤ 9999 := by
  induction t with
  | z => intro x hx; cases hx
  | c n e r _ ih =>
    intro x hx
    rcases List.mem_cons.1 (show x ∈ n :: r.times from hx) with rfl | hx
    · exact ⟨h.1, h.2.1⟩
    · exact ih h.2.2.2.1 x hx
theorem cts_nil : T.cts [] 10 = .z := by simp [T.cts]
theorem take_snoc {xs : List Int} {k : Nat} {x : Int} {t : List Int} (h : xs.drop k = x :: t) : xs.take (k + 1) = xs.take k ++ [x] := by
  have hk : k < xs.length := by
    have := congrArg List.length h
    simp at this
    omega
  have hx : xs[k] = x := by
    have h5 := List.drop_eq_getElem_cons hk
    rw [h] at h5
    exact (List.cons.inj h5).1.symm
  rw [List.take_add_one, List.getElem?_eq_getElem hk, hx]
  rfl
theorem desc_low {xs : List Int} {k : Nat} {x : Int} {t : List Int} (hp : xs.Pairwise (fun a b => b ≤ a)) (h : xs.drop k = x :: t) : ∀ y ∈ xs.take k, x ≤ y := by
  intro y hy
  rw [← List.take_append_drop k xs, List.pairwise_append, h] at hp
  exact hp.2.2 y hy x List.mem_cons_self
theorem Tz.one {w : World} {b o c : Nat} {e : T} (hat : At w b o e.enc) (h1 : e.enc.length ≤ c) (h2 : c ≤ maxLen) :
    Tz (w.alloc (.cells #[.int .i64 1, .slice (some ⟨b, o, none⟩) e.enc.length c] 53)) w.heap.size 1 1 (.c 1 e .z) [.int .i64 1, .slice (some ⟨b, o, none⟩) e.enc.length c] := by
  refine ⟨rfl, Nat.le_refl _, by decide, ⟨b, o, c, [], rfl, hat.alloc (T.enc_ne e) _, h1, h2, rfl⟩, by simp, fun j _ => ?_⟩
  rw [Joins.cell_alloc_mark_at _ _ _ _ _ _ rfl]
  simp

set_option maxHeartbeats 4000000 in
theorem impl_BagOrd (ao : Option Addr) (n c : Nat) (xs : List Int) (w : World) (h : Sl w ao n c xs) :
    Calls Try.prog 25 #[.slice ao n c] w (IntPost w (T.bagOrd xs)) := by
  have k1 := Lib.hid (impl_BagValid ao n c xs w h)
  rcases bag_tf xs with h1 | h1
  · rw [h1] at k1
    have hl := (itemsB_true.1 (bagB_true.1 h1).1).1
    rw [h.1] at hl
    have HS := Lib.hid h
    have X1 := Lib.hid h.1
    have HP := Lib.hid (desc_pw xs (bagB_true.1 h1).2)
    have HU := Lib.hid (upTo_true.1 (itemsB_true.1 (bagB_true.1 h1).1).2)
    have HFF := Lib.hid (show ∀ (e : Nat) (wr : World), e ≤ 9999 → Calls Try.prog 32 #[.int .i64 e] wr (IntPost wr (T.nT e).enc) from fun e wr he => by
      have h1 := T.nT_row (e := e) (by omega)
      rw [← h1]
      refine (impl_OrdOf e wr (by omega) (by omega)).mono ?_
      rintro ee wx ⟨a, c, rfl, ho, hbx⟩
      exact ⟨a, c, rfl, ho, hbx⟩)
    obtain ⟨res, hres⟩ : ∃ res, res = T.cts xs 10 := ⟨_, rfl⟩
    have hll := T.cts_len xs 10
    rw [T.bagOrd_in h1, ← hres]
    rw [← hres] at hll
    have HR := Lib.hid hres
    have Hlen := Lib.hid hll
    clear h h1 hres hll
    go_enter Try.func25, Try.ntmps25
    go_wp2_with fail
    refine (k1.out).mono ?_
    rintro ee w1 ⟨rfl, hb1⟩
    have Hb1 := Lib.hid hb1
    clear hb1
    go_wp2_with fail
    go_loopg [3, 5, 11] n (fun gk v3 _ v8 wr => ∃ k : Nat, gk + k = n ∧ v8 = .int .i64 k ∧ BoL w xs k v3 wr)
    case atStart => exact ⟨0, rfl, rfl, ⟨none, 0, 0, rfl, .inl ⟨rfl, rfl, rfl, rfl⟩⟩, Hb1.out⟩
    case round =>
      obtain ⟨k, hgk, rfl, ⟨aS, nS, cS, rfl, hv⟩, hb⟩ := hrel
      obtain ⟨gA, rfl⟩ : ∃ gA, gA = gk := ⟨_, rfl⟩
      obtain ⟨wB, rfl⟩ : ∃ wB : World, wB = wr := ⟨_, rfl⟩
      have Hgk := Lib.hid hgk
      have Hb := Lib.hid hb
      have Hv := Lib.hid hv
      have hwB := hb.size
      by_cases hlt : k < n
      · obtain ⟨b, off, rfl, hat⟩ := HS.out.2.2.2 (by omega)
        obtain ⟨x, xt, hdx, hdx1⟩ := drop_cons (xs := xs) (a := k) (by rw [X1.out]; exact hlt)
        have hbl : b < w.heap.size := hat.lt (by intro h9; rw [h9] at hdx; simp at hdx)
        have y0 := (hat.below hb hbl).get hdx
        have hxm : x ∈ xs := List.mem_of_mem_drop (by rw [hdx]; exact List.mem_cons_self)
        have hx9 := HU.out x hxm
        have hlow := desc_low HP.out hdx
        have htk := take_snoc hdx
        obtain ⟨t, rfl⟩ := Int.eq_ofNat_of_zero_le hx9.1
        have ht9 : t < 10 := by omega
        have hsn := T.cts_snoc hlow ht9
        rw [← htk] at hsn
        have Hsn := Lib.hid hsn
        have hsl : (xs.take k).length ≤ 9999 := by rw [List.length_take]; omega
        have Hnf := Lib.hid (T.cts_nf hsl 10 (by omega))
        have Hk0 := Lib.hid (show k = 0 → T.cts (xs.take (k + 1)) 10 = .c 1 (T.nT t) .z from fun h9 => by rw [← hsn, h9, List.take_zero, cts_nil]; rfl)
        have kF := Lib.hid (HFF.out t wB (by omega))
        clear hgk hv hb hat hdx hdx1 hxm hx9 hlow htk hsn hsl
        go_wp2_with fail
        refine (kF.out).mono ?_
        rintro ee wb ⟨aN, cN, rfl, hoN, hbN⟩
        obtain ⟨LN, hLN⟩ : ∃ LN, LN = (T.nT t).enc.length := ⟨_, rfl⟩
        rw [← hLN] at hoN ⊢
        have hL0 : 0 < LN := by rw [hLN, T.enc_len]; omega
        obtain ⟨gN, cN', hform⟩ := Joins.ownsRow_form hoN hL0
        simp only [Value.slice.injEq] at hform
        obtain ⟨rfl, _, rfl⟩ := hform
        have hslN := Sl.of_own hoN
        obtain ⟨bN, oN, heN, hatN⟩ := hslN.2.2.2 hL0
        simp only [Option.some.injEq, Addr.mk.injEq, and_true] at heN
        obtain ⟨rfl, rfl⟩ := heN
        have hz1 := Tz.one hatN (by rw [← hLN]; exact hslN.2.1) hslN.2.2.1
        rw [← hLN] at hz1
        have hbA := (Hb.out.trans (hbN.mono hwB)).alloc (Nat.le_trans hwB hbN.size) (.cells #[.int .i64 1, .slice (some ⟨gN, 0, none⟩) LN cN] 53)
        have HbA := Lib.hid hbA
        have hel := T.nT_len t
        have hfin : ∀ (g n' c' : Nat) (cs : List Value) (w' : World), Tz w' g n' c' (T.cts (xs.take (k + 1)) 10) cs → Below (wb.alloc (.cells #[.int .i64 1, .slice (some ⟨gN, 0, none⟩) LN cN] 53)).heap.size (wb.alloc (.cells #[.int .i64 1, .slice (some ⟨gN, 0, none⟩) LN cN] 53)) w' → BoL w xs (k + 1) (.slice (some ⟨g, 0, none⟩) n' c') w' :=
          fun g n' c' cs w' hz hb' => ⟨⟨_, n', c', rfl, .inr ⟨g, cs, rfl, hz⟩⟩, HbA.out.trans (hb'.mono HbA.out.size)⟩
        have Hfin := Lib.hid hfin
        rcases Hv.out with ⟨hk0, rfl, rfl, rfl⟩ | ⟨gS, cs, rfl, hzS⟩
        · have ka := Lib.hid (addedTermsN_any wb.heap.size 1 (T.nT t) _ _ hz1)
          rw [← Hk0.out hk0] at ka
          clear hLN hL0 hslN hatN hoN hbN hz1 hbA hel hfin hk0
          go_wp2_with fail
          refine (ka.out).mono ?_
          rintro ee w5 ⟨g5, n5, c5, cs5, rfl, hz5, hb5⟩
          have Hr := Lib.hid (Hfin.out g5 n5 c5 cs5 w5 hz5 hb5)
          clear hz5 hb5
          go_wp2_with fail
          go_roundg (gA - 1)
          case measure => have := Hgk.out; omega
          case rel => exact ⟨k + 1, by have := Hgk.out; omega, by go_num, Hr.out⟩
        · have hsl := T.cts_len (xs.take k) 10
          have hzS' := (hzS.below hbN).below ((Below.refl wb.heap.size wb).alloc (Nat.le_refl _) (.cells #[.int .i64 1, .slice (some ⟨gN, 0, none⟩) LN cN] 53))
          have ka := Lib.hid (addedTermsC_any gS nS cS wb.heap.size 1 1 _ _ _ _ _ hzS' hz1 (by omega) (by simp [T.enc, T.body] at hel ⊢; omega) (fun y hy => by have := T.nf_times' Hnf.out y hy; omega) (fun y hy => by simp [T.times] at hy; omega))
          rw [Hsn.out] at ka
          clear hLN hL0 hslN hatN hoN hbN hz1 hbA hel hfin hsl hzS hzS'
          go_wp2_with fail
          refine (ka.out).mono ?_
          rintro ee w5 ⟨g5, n5, c5, cs5, rfl, hz5, hb5⟩
          have Hr := Lib.hid (Hfin.out g5 n5 c5 cs5 w5 hz5 hb5)
          clear hz5 hb5
          go_wp2_with fail
          go_roundg (gA - 1)
          case measure => have := Hgk.out; omega
          case rel => exact ⟨k + 1, by have := Hgk.out; omega, by go_num, Hr.out⟩
      · obtain rfl : k = n := by omega
        have htm : Tm wB aS nS res := by
          have htk : xs.take k = xs := List.take_of_length_le (by rw [X1.out]; exact Nat.le_refl _)
          rcases Hv.out with ⟨hk0, rfl, rfl, rfl⟩ | ⟨gS, cs, rfl, hzS⟩
          · have hx0 : xs = [] := List.length_eq_zero_iff.1 (by rw [X1.out]; exact hk0)
            rw [HR.out, hx0, cts_nil]
            exact ⟨rfl, [], rfl, fun h9 => by omega⟩
          · rw [htk, ← HR.out] at hzS
            exact hzS.tm
        have k5 := Lib.hid (ordOfTerms_any aS nS cS res wB (by have := Hlen.out; omega) htm)
        clear hgk hv hb htm Hv
        go_wp2_with fail
        refine (k5.out).mono ?_
        rintro ee w5 ⟨a3, c3, rfl, ho3, hb5⟩
        have hfin : IntPost w res.enc (.returned (.slice a3 res.enc.length c3)) w5 :=
          ⟨a3, c3, rfl, Joins.ownsRow_le ho3 hwB, Hb.out.trans (hb5.mono hwB)⟩
        have Hfin := Lib.hid hfin
        clear ho3 hb5 hfin
        go_wp2_with fail
        go_ret
        exact Hfin.out
  · rw [h1] at k1
    rw [T.bagOrd_out h1]
    clear h h1
    go_enter Try.func25, Try.ntmps25
    go_wp2_with fail
    refine (k1.out).mono ?_
    rintro ee w1 ⟨rfl, hb1⟩
    have Hb1 := Lib.hid hb1
    clear hb1
    go_wp2_with fail
    go_ret
    exact ⟨none, 0, rfl, nil_own w w1, Hb1.out⟩

end Go.Proofs.Ytobiaglmfdfepaa

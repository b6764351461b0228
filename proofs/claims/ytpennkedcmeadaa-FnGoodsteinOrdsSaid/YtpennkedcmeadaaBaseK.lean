/- The program's ordinal of digits. -/
import Derived.Test.YtpennkedcmeadaaBaseJ
import Derived.Shelf.Abstract
import Derived.Deep.LoopGhost
import Derived.Deep.RegionHeld3
namespace Go.Proofs.Ytpennkedcmeadaa
set_option maxRecDepth 100000
open Go.RowKit

/-- A row in new memory; nil where it is empty. -/
def IntPostN (w : World) (r : List Int) (e : Ending) (w' : World) : Prop :=
  ∃ a c, e = .returned (.slice a r.length c) ∧ (r = [] → a = none ∧ c = 0) ∧ w'.ownsRow w.heap.size 3 1 (.slice a r.length c) r.length (ints r) ∧ Below w.heap.size w w'
theorem IntPostN.weak {w w' : World} {r : List Int} {e : Ending} (h : IntPostN w r e w') : IntPost w r e w' := by
  obtain ⟨a, c, h1, _, h2, h3⟩ := h
  exact ⟨a, c, h1, h2, h3⟩
theorem IntPostN.nil {w w' : World} (hb : Below w.heap.size w w') : IntPostN w [] (.returned (.slice none 0 0)) w' :=
  ⟨none, 0, rfl, fun _ => ⟨rfl, rfl⟩, ⟨rfl, .inl ⟨rfl, rfl⟩⟩, hb⟩
theorem IntPostN.mono {w w1 : World} {r : List Int} {e : Ending} {w' : World} (h : IntPostN w1 r e w') (hb : Below w.heap.size w w1) : IntPostN w r e w' := by
  obtain ⟨a, c, rfl, hn, ho, hb1⟩ := h
  exact ⟨a, c, rfl, hn, Joins.ownsRow_le ho hb.size, hb.trans (hb1.mono hb.size)⟩

/-- A row, if it is valid, nil if not. -/
theorem fittingOrdN_any (ao : Option Addr) (n cap : Nat) (t : T) (w : World) (hl : t.enc.length ≤ 1000000000000) (h : Tm w ao n t) :
    Calls Try.prog 45 #[.slice ao n cap] w fun e w' => ∃ a' c', e = .returned (.tuple #[.slice a' (T.fit t).length c', .bool (T.vldB t.enc)]) ∧ (T.fit t = [] → a' = none ∧ c' = 0) ∧
      w'.ownsRow w.heap.size 3 1 (.slice a' (T.fit t).length c') (T.fit t).length (ints (T.fit t)) ∧ Below w.heap.size w w' := by
  have k1 := Lib.hid (ordOfTerms_any ao n cap t w hl h)
  clear h
  go_enter Try.func45, Try.ntmps45
  go_wp2_with fail
  refine (k1.out).mono ?_
  rintro ee w1 ⟨a', c', rfl, ho, hb1⟩
  have Ho := Lib.hid ho
  have Hb1 := Lib.hid hb1
  have k2 := Lib.hid (impl_OrdValid a' t.enc.length c' t.enc w1 (Sl.of_own ho))
  clear ho hb1
  go_wp2_with fail
  refine (k2.out).mono ?_
  rintro ee w2 ⟨rfl, hb2⟩
  have Hb2 := Lib.hid (Hb1.out.trans (hb2.mono Hb1.out.size))
  have Ho2 := Lib.hid (ownsRow_below' Ho.out hb2)
  clear hb2
  rcases vld_tf t.enc with h1 | h1
  · have hf : T.fit t = t.enc := by rw [T.fit, if_pos h1]
    have HF := Lib.hid hf
    have H1 := Lib.hid h1
    rw [h1]
    clear hf h1
    go_wp2_with fail
    go_ret2
    exact ⟨a', c', by rw [HF.out, H1.out]; rfl, fun h9 => by rw [HF.out] at h9; exact absurd h9 (T.enc_ne t), by rw [HF.out]; exact Ho2.out, Hb2.out⟩
  · have hf : T.fit t = [] := by rw [T.fit, if_neg (by rw [h1]; simp)]
    have HF := Lib.hid hf
    have H1 := Lib.hid h1
    rw [h1]
    clear hf h1
    go_wp2_with fail
    go_ret2
    exact ⟨none, 0, by rw [HF.out, H1.out]; rfl, fun _ => ⟨rfl, rfl⟩, by rw [HF.out]; exact World.ownsRow_nil _ _ _ _, Hb2.out⟩

def OdLoop (w : World) (f : Nat → T) (b n L gk : Nat) (v8 v18 : Value) (wr : World) : Prop :=
  ∃ (i : Nat) (q : T) (qs : List Value) (a8 : Option Addr) (c8 qn : Nat), v18 = .int .i64 i ∧ gk + i = L ∧ T.dig f b n = q.app (T.dig f b (n % b ^ gk)) ∧ q.cnt = qn ∧ qn ≤ i ∧ v8 = .slice a8 qn c8 ∧
    wr.ownsRow w.heap.size 54 2 v8 qn qs ∧ TF wr v8.ownBlock q qs ∧ Below w.heap.size w wr

set_option maxRecDepth 100000 in
set_option maxHeartbeats 4000000 in
theorem ordOfDigits_any (k : Nat) (EK : ∀ args w, (callFunc k args).run Try.prog w = .ok (.enter k args) w) (ls : Array Value) (f : Nat → T) (n b : Nat) (w : World) (hb : 2 ≤ b) (hb2 : b ≤ 90) (hn : n ≤ 1000000000) (hlen : (T.dig f b n).enc.length ≤ 2000)
    (hf : ∀ e, b ^ e ≤ n → (f e).enc.length ≤ 60) (HF : ∀ (e : Nat) (wr : World), b ^ e ≤ n → Below w.heap.size w wr → Calls Try.prog k (#[.int .i64 e] ++ ls) wr (IntPost wr (f e).enc)) :
    Calls Try.prog 34 #[.int .i64 n, .int .i64 b, .func (.func k) #[] ls] w (IntPostN w (T.fit (T.dig f b n))) := by
  obtain ⟨i0, hi, hz0, hz1, hz2⟩ := info_parts info_term
  have k1 := Lib.hid (digitsOf_any n b w hb (by omega) hn)
  obtain ⟨L, hL⟩ : ∃ L, L = (T.digs b n).length := ⟨_, rfl⟩
  have hL30 : L ≤ 30 := by rw [hL]; exact T.digs_cnt hb hn
  rw [← hL] at k1
  obtain ⟨res, hres⟩ : ∃ res, res = T.dig f b n := ⟨_, rfl⟩
  rw [← hres] at hlen ⊢
  have HL := Lib.hid hL
  have HR := Lib.hid hres
  have HFF := Lib.hid HF
  have Hf := Lib.hid hf
  have Hlen := Lib.hid hlen
  clear hL hres HF hf hlen
  go_enter Try.func34, Try.ntmps34
  go_wp2_with fail
  refine (k1.out).mono ?_
  rintro ee w4 ⟨a, c, rfl, ho4, hb4⟩
  have HO4 := Lib.hid ho4
  have Hb4 := Lib.hid hb4
  clear ho4 hb4
  go_wp2_with fail
  go_loopg [8, 18] L (fun gk v8 v18 wr => OdLoop w4 f b n L gk v8 v18 wr)
  case atStart => exact ⟨0, .z, [], none, 0, 0, rfl, rfl, by show _ = T.dig f b (n % b ^ L); rw [HL.out]; exact (T.dig_start hb).symm, rfl, Nat.le_refl _, rfl, ⟨rfl, .inl ⟨rfl, rfl⟩⟩, rfl, Below.refl _ _⟩
  case round =>
    obtain ⟨i, q, qs, a8, c8, qn, rfl, hgk, hdi, hqn, hqi, rfl, ho, hTF, hbw⟩ := hrel
    have Hgk := Lib.hid hgk
    have Hdi := Lib.hid hdi
    have Hqn := Lib.hid hqn
    have Ho := Lib.hid ho
    have HTF := Lib.hid hTF
    have Hbw := Lib.hid hbw
    have hws := hbw.size
    have hqb : qn ≤ 30 := by omega
    clear hdi hqn ho hTF hbw
    by_cases hlt : i < L
    · obtain ⟨t, ht⟩ : ∃ t, gk = t + 1 := ⟨gk - 1, by omega⟩
      obtain ⟨L1, hL1⟩ : ∃ L1, L = L1 + 1 := ⟨L - 1, by omega⟩
      subst ht
      obtain ⟨g, c', hv⟩ := Joins.ownsRow_form HO4.out (by omega)
      simp only [Value.slice.injEq] at hv
      obtain ⟨rfl, _, rfl⟩ := hv
      obtain ⟨d, hd⟩ : ∃ d, d = n / b ^ t % b := ⟨_, rfl⟩
      have hg4 : g < w4.heap.size := (HO4.out.lt g rfl).2
      have y0 : wr.cell? ⟨g, i, none⟩ = some (.int .i64 d) := by
        rw [Hbw.out.cell (p := ⟨g, i, none⟩) hg4]
        refine (HO4.out.cellAt i (by omega)).trans ?_
        rw [ints, List.getElem?_map, T.digI_get (t := t) hb (by have := HL.out; omega), hd]
        rfl
      have hdb : d < 100 := by
        have h1 : d < b := by rw [hd]; exact Nat.mod_lt _ (by omega)
        omega
      have hj1 : IntKind.i64.wrap ((L : Int) - 1) = (L1 : Int) := by rw [IntWalk.i64_in _ (by omega)]; omega
      have hj2 : (L : Int) - 1 = (L1 : Int) := by omega
      have hk1 : IntKind.i64.wrap ((L1 : Int) - (i : Int)) = (t : Int) := by rw [IntWalk.i64_in _ (by omega)]; omega
      have hk2 : (L1 : Int) - (i : Int) = (t : Int) := by omega
      have Hd := Lib.hid hd
      have HL1 := Lib.hid hL1
      clear hd hgk hL1
      by_cases hd0 : 0 < d
      · have hpn : b ^ t ≤ n := by
          rcases Nat.lt_or_ge n (b ^ t) with h1 | h1
          · have h2 := Hd.out; rw [Nat.div_eq_of_lt h1, Nat.zero_mod] at h2; omega
          · exact h1
        have Hpn := Lib.hid hpn
        have kF := Lib.hid (HFF.out t wr hpn (Hb4.out.trans (Hbw.out.mono Hb4.out.size)))
        have hfl := Hf.out t hpn
        have hnx := T.dig_next (f := f) hb (show 0 < n / b ^ t % b by rw [← Hd.out]; exact hd0)
        rw [← Hd.out] at hnx
        have Hnx := Lib.hid hnx
        clear hpn hnx
        go_wp2_with (go_at_fn k; refine (kF.out).mono ?_)
        rintro ee w5 ⟨aN, cN, rfl, hoN, hbN⟩
        obtain ⟨LN, hLN⟩ : ∃ LN, LN = (f t).enc.length := ⟨_, rfl⟩
        rw [← hLN] at hoN hfl ⊢
        have hL0 : 0 < LN := by rw [hLN, T.enc_len]; omega
        obtain ⟨gN, cN', hform⟩ := Joins.ownsRow_form hoN hL0
        simp only [Value.slice.injEq] at hform
        obtain ⟨rfl, _, rfl⟩ := hform
        have hslN := Sl.of_own hoN
        obtain ⟨bN, oN, heN, hatN⟩ := hslN.2.2.2 hL0
        simp only [Option.some.injEq, Addr.mk.injEq, and_true] at heN
        obtain ⟨rfl, rfl⟩ := heN
        have HatN := Lib.hid hatN
        have HcN := Lib.hid (And.intro hslN.2.1 hslN.2.2.1)
        have hgNb : wr.heap.size ≤ gN := (hoN.lt gN rfl).1
        have Hbr5 := Lib.hid hbN
        have Hb5 := Lib.hid (Hbw.out.trans (hbN.mono hws))
        have hw5 := Hb5.out.size
        have HO5 := Lib.hid (ownsRow_below' Ho.out Hbr5.out)
        have HT5 := Lib.hid (HTF.out.below Hbr5.out)
        have HLh := Lib.hid hLN
        clear hL0 hLN hslN hatN hoN hbN
        go_wp2_with (first
          | (at_builtin; refine wpList_append_own_at _ rfl (.tmp 25) (.tmp 35) 50 rfl w4.heap.size 54 i0 _ 2 32 Try.underlying50 hi hz0 hz1 hz2 rfl (by decide) _ qn qs rfl (HO5.out.alloc _) ⟨w5.heap.size, 0, none⟩ 1 1 [.int .i64 d, .slice (some ⟨gN, 0, none⟩) LN cN] rfl rfl (cell_two_new _ _ _ _) (two_one _ _ rfl rfl) (by unfold maxLen; omega) (by omega) (by simp; omega) ?_; intro v6 w6 ho6 hg6 _ hat6))
        obtain ⟨a6, c6, rfl⟩ := own_shape ho6
        have hfin : OdLoop w4 f b n L t (.slice a6 (qn + 1) c6) (.int .i64 ((i : Int) + 1)) w6 := by
          have hTa := (HT5.out.below ((Below.refl w5.heap.size w5).alloc (Nat.le_refl _) (.cells #[.int .i64 d, .slice (some ⟨gN, 0, none⟩) LN cN] 54))).snoc (n := (d : Int))
            (HatN.out.alloc (T.enc_ne (f t)) _) (own_row_lt Ho.out hgNb) (by have := HcN.out.1; have := HLh.out; omega) HcN.out.2
          rw [← HLh.out] at hTa
          refine ⟨i + 1, q.app (.c d (f t) .z), _, a6, c6, qn + 1, by go_num, by have := Hgk.out; omega, ?_, by rw [T.app_cnt, Hqn.out]; rfl, by omega, rfl, ho6,
            hTa.go hg6 (fun _ _ => .inl rfl) (fun k e => ?_), (Hb5.out.alloc hw5 _).grown hg6 (by simp; omega) (fun k e => (HO5.out.lt k e).1)⟩
          · rw [Hdi.out, Hnx.out, T.app_assoc]; rfl
          · rcases hat6 with h | h
            · exact .inl h
            · right
              rw [h] at e
              cases e
              exact Nat.le_refl _
        have Hfin := Lib.hid hfin
        clear ho6 hg6 hat6 hfin
        go_roundg t
        case measure => omega
        case rel => exact Hfin.out
      · obtain rfl : d = 0 := by omega
        have Hsk := Lib.hid (T.dig_skip (f := f) (b := b) (n := n) (t := t) Hd.out.symm)
        go_wp2_with fail
        go_roundg t
        case measure => omega
        case rel => exact ⟨i + 1, q, qs, a8, c8, qn, by go_num, by have := Hgk.out; omega, by rw [Hdi.out, Hsk.out], Hqn.out, by omega, rfl, Ho.out, HTF.out, Hbw.out⟩
    · have hgk0 : gk = 0 := by have := Hgk.out; omega
      subst hgk0
      have hrt : q = res := by rw [HR.out, Hdi.out, T.dig_end, T.app_z]
      have htm := Tm.of_own Ho.out (HTF.out.tc) Hqn.out.symm
      rw [hrt] at htm
      have k6 := Lib.hid (fittingOrdN_any a8 qn c8 res wr (by have := Hlen.out; omega) htm)
      clear hrt htm hgk
      go_wp2_with fail
      refine (k6.out).mono ?_
      rintro ee w7 ⟨a7, c7, rfl, hnn, ho7, hb7⟩
      have hfin : IntPostN w (T.fit res) (.returned (.slice a7 (T.fit res).length c7)) w7 :=
        ⟨a7, c7, rfl, hnn, Joins.ownsRow_le ho7 (Nat.le_trans Hb4.out.size Hbw.out.size), Hb4.out.trans ((Hbw.out.trans (hb7.mono Hbw.out.size)).mono Hb4.out.size)⟩
      have Hfin := Lib.hid hfin
      clear ho7 hb7 hnn hfin
      go_wp2_with fail
      go_ret
      exact Hfin.out

end Go.Proofs.Ytpennkedcmeadaa

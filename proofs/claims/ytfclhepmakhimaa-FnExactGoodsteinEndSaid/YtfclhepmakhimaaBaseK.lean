/- The program's ordinal of digits. -/
import Derived.Test.YtfclhepmakhimaaBaseJ
import Derived.Shelf.Abstract
import Derived.Deep.LoopGhost
import Derived.Deep.RegionHeld3
namespace Go.Proofs.Ytfclhepmakhimaa
set_option maxRecDepth 100000
open Go.RowKit

/-- A row in new memory; nil where it is empty. -/
def IntPostN (w : World) (r : List Int) (e : Ending) (w' : World) : Prop :=
  ∃ a c, e = .returned (.slice a r.length c) ∧ (r = [] → a = none ∧ c = 0) ∧ w'.ownsRow w.heap.size 3 1 (.slice a r.length c) r.length (ints r) ∧ Below w.heap.size w w'
theorem IntPostN.weak {w w' : World} {r : List Int} {e : Ending} (h : IntPostN w r e w') : IntPost w r e w' := by
  obtain ⟨a, c, h1, _, h2, h3⟩ := h
  exact ⟨a, c, h1, h2, h3⟩
theorem IntPostN.nil {w w' : World} (hb : Below w.heap.size w w') : IntPostN w [] (.returned (.slice none 0 0)) w' :=
  ⟨none, 0, rfl, fun _ => ⟨rfl, rfl⟩, ⟨rfl, .inl ⟨rfl, rfl⟩⟩, hb⟩
theorem IntPostN.mono {w w1 : World} {r : List Int} {e : Ending} {w' : World} (h : IntPostN w1 r e w') (hb : Below w.heap.size w w1) : IntPostN w r e w' := by
  obtain ⟨a, c, rfl, hn, ho, hb1⟩ := h
  exact ⟨a, c, rfl, hn, Joins.ownsRow_le ho hb.size, hb.trans (hb1.mono hb.size)⟩

/-- A row, if it is valid, nil if not. -/
theorem fittingOrdN_any (ao : Option Addr) (n cap : Nat) (t : T) (w : World) (hl : t.enc.length ≤ 1000000000000) (h : Tm w ao n t) :
    Calls Try.prog 57 #[.slice ao n cap] w fun e w' => ∃ a' c', e = .returned (.tuple #[.slice a' (T.fit t).length c', .bool (T.vldB t.enc)]) ∧ (T.fit t = [] → a' = none ∧ c' = 0) ∧
      w'.ownsRow w.heap.size 3 1 (.slice a' (T.fit t).length c') (T.fit t).length (ints (T.fit t)) ∧ Below w.heap.size w w' := by
  have k1 := Lib.hid (ordOfTerms_any ao n cap t w hl h)
  clear h
  go_enter Try.func57, Try.ntmps57
  go_wp2_with fail
  refine (k1.out).mono ?_
  rintro ee w1 ⟨a', c', rfl, ho, hb1⟩
  have Ho := Lib.hid ho
  have Hb1 := Lib.hid hb1
  have k2 := Lib.hid (impl_OrdValid a' t.enc.length c' t.enc w1 (Sl.of_own ho))
  clear ho hb1
  go_wp2_with fail
  refine (k2.out).mono ?_
  rintro ee w2 ⟨rfl, hb2⟩
  have Hb2 := Lib.hid (Hb1.out.trans (hb2.mono Hb1.out.size))
  have Ho2 := Lib.hid (ownsRow_below' Ho.out hb2)
  clear hb2
  rcases vld_tf t.enc with h1 | h1
  · have hf : T.fit t = t.enc := by rw [T.fit, if_pos h1]
    have HF := Lib.hid hf
    have H1 := Lib.hid h1
    rw [h1]
    clear hf h1
    go_wp2_with fail
    go_ret2
    exact ⟨a', c', by rw [HF.out, H1.out]; rfl, fun h9 => by rw [HF.out] at h9; exact absurd h9 (T.enc_ne t), by rw [HF.out]; exact Ho2.out, Hb2.out⟩
  · have hf : T.fit t = [] := by rw [T.fit, if_neg (by rw [h1]; simp)]
    have HF := Lib.hid hf
    have H1 := Lib.hid h1
    rw [h1]
    clear hf h1
    go_wp2_with fail
    go_ret2
    exact ⟨none, 0, by rw [HF.out, H1.out]; rfl, fun _ => ⟨rfl, rfl⟩, by rw [HF.out]; exact World.ownsRow_nil _ _ _ _, Hb2.out⟩

namespace T
/-- The ordinal of digits: for each that is not 0 a term, with the exponent of the number of digits behind it. -/
def ofDigs (f : Nat → T) : List Int → T
  | [] => z
  | x :: xs => if x = 0 then ofDigs f xs else c x (f xs.length) (ofDigs f xs)
theorem ofDigs_skip {f : Nat → T} {xs : List Int} : ofDigs f ((0 : Int) :: xs) = ofDigs f xs := by rw [ofDigs, if_pos rfl]
theorem ofDigs_next {f : Nat → T} {x : Int} {xs : List Int} (h : x ≠ 0) : ofDigs f (x :: xs) = c x (f xs.length) (ofDigs f xs) := by rw [ofDigs, if_neg h]
theorem dig_ofDigs {f : Nat → T} {b n : Nat} (hb : 2 ≤ b) : dig f b n = ofDigs f (digI b n) := by
  have key : ∀ t, t ≤ (digs b n).length → dig f b (n % b ^ t) = ofDigs f ((digI b n).drop ((digs b n).length - t)) := by
    intro t
    induction t with
    | zero => intro _; rw [dig_end, List.drop_eq_nil_of_le (by rw [digI_len]; exact Nat.le_refl _)]; rfl
    | succ t ih =>
      intro ht
      obtain ⟨i, hi⟩ : ∃ i, i + t + 1 = (digs b n).length := ⟨(digs b n).length - (t + 1), by omega⟩
      have h1 : (digs b n).length - (t + 1) = i := by omega
      have h2 : (digs b n).length - t = i + 1 := by omega
      have hg := digI_get (n := n) (t := t) (i := i) hb hi
      have hil : i < (digI b n).length := by rw [digI_len]; omega
      have hih := ih (by omega)
      rw [h2] at hih
      rw [h1, List.drop_eq_getElem_cons hil]
      rw [List.getElem?_eq_getElem hil] at hg
      rw [Option.some.inj hg]
      rcases Nat.eq_zero_or_pos (n / b ^ t % b) with h0 | h0
      · rw [dig_skip h0, h0, hih]; exact ofDigs_skip.symm
      · rw [dig_next hb h0, ofDigs_next (by omega), hih, List.length_drop, digI_len, show (digs b n).length - (i + 1) = t by omega]
  have h := key (digs b n).length (Nat.le_refl _)
  rw [Nat.sub_self, List.drop_zero, dig_start hb] at h
  exact h
end T

def OdLoop (w : World) (f : Nat → T) (xs : List Int) (L gk : Nat) (v5 v12 : Value) (wr : World) : Prop :=
  ∃ (i : Nat) (q : T) (qs : List Value) (a8 : Option Addr) (c8 qn : Nat), v12 = .int .i64 i ∧ gk + i = L ∧ T.ofDigs f xs = q.app (T.ofDigs f (xs.drop i)) ∧ q.cnt = qn ∧ qn ≤ i ∧ v5 = .slice a8 qn c8 ∧
    wr.ownsRow w.heap.size 54 2 v5 qn qs ∧ TF wr v5.ownBlock q qs ∧ Below w.heap.size w wr

set_option maxRecDepth 100000 in
set_option maxHeartbeats 4000000 in
theorem ofDigits_any (k : Nat) (EK : ∀ args w, (callFunc k args).run Try.prog w = .ok (.enter k args) w) (ls : Array Value) (f : Nat → T) (ao : Option Addr) (L cap : Nat) (xs : List Int) (w4 : World)
    (h : Sl w4 ao L cap xs) (hL30 : L ≤ 30) (hx : ∀ x ∈ xs, 0 ≤ x ∧ x ≤ 9999) (hlen : (T.ofDigs f xs).enc.length ≤ 2000)
    (hf : ∀ e x, xs[L - 1 - e]? = some x → 0 < x → e < L → (f e).enc.length ≤ 60) (HF : ∀ (e : Nat) (x : Int) (wr : World), xs[L - 1 - e]? = some x → 0 < x → e < L → Below w4.heap.size w4 wr → Calls Try.prog k (#[.int .i64 e] ++ ls) wr (IntPost wr (f e).enc)) :
    Calls Try.prog 67 #[.slice ao L cap, .func (.func k) #[] ls] w4 (IntPostN w4 (T.fit (T.ofDigs f xs))) := by
  obtain ⟨i0, hi, hz0, hz1, hz2⟩ := info_parts info_term
  obtain ⟨x1, x2, x3, x4⟩ := h
  have X1 := Lib.hid x1
  have X4 := Lib.hid x4
  have HX := Lib.hid hx
  obtain ⟨res, hres⟩ : ∃ res, res = T.ofDigs f xs := ⟨_, rfl⟩
  rw [← hres] at hlen ⊢
  have HR := Lib.hid hres
  have HFF := Lib.hid HF
  have Hf := Lib.hid hf
  have Hlen := Lib.hid hlen
  clear x1 x4 hx hres HF hf hlen
  go_enter Try.func67, Try.ntmps67
  go_wp2_with fail
  go_loopg [5, 12] L (fun gk v5 v12 wr => OdLoop w4 f xs L gk v5 v12 wr)
  case atStart => exact ⟨0, .z, [], none, 0, 0, rfl, rfl, rfl, rfl, Nat.le_refl _, rfl, ⟨rfl, .inl ⟨rfl, rfl⟩⟩, rfl, Below.refl _ _⟩
  case round =>
    obtain ⟨i, q, qs, a8, c8, qn, rfl, hgk, hdi, hqn, hqi, rfl, ho, hTF, hbw⟩ := hrel
    have Hgk := Lib.hid hgk
    have Hdi := Lib.hid hdi
    have Hqn := Lib.hid hqn
    have Ho := Lib.hid ho
    have HTF := Lib.hid hTF
    have Hbw := Lib.hid hbw
    have hws := hbw.size
    have hqb : qn ≤ 30 := by omega
    clear hdi hqn ho hTF hbw
    by_cases hlt : i < L
    · obtain ⟨t, ht⟩ : ∃ t, gk = t + 1 := ⟨gk - 1, by omega⟩
      obtain ⟨L1, hL1⟩ : ∃ L1, L = L1 + 1 := ⟨L - 1, by omega⟩
      subst ht
      obtain ⟨bb, off, rfl, hat⟩ := X4.out (by omega)
      have hix : i < xs.length := by rw [X1.out]; exact hlt
      obtain ⟨x, xt, hdx, hdx1⟩ := drop_cons (xs := xs) (a := i) hix
      have y0 := (hat.below Hbw.out (hat.lt (by intro h9; rw [h9] at hix; simp at hix))).get hdx
      have hxm : x ∈ xs := List.mem_of_mem_drop (by rw [hdx]; exact List.mem_cons_self)
      have hx9 := HX.out x hxm
      have hxt : xt.length = t := by
        have h9 := congrArg List.length hdx
        rw [List.length_drop, X1.out] at h9
        simp at h9
        omega
      have hxg : xs[L - 1 - t]? = some x := by
        rw [show L - 1 - t = i by omega, List.getElem?_eq_getElem hix]
        have h5 := List.drop_eq_getElem_cons hix
        rw [hdx] at h5
        rw [(List.cons.inj h5).1]
      have htL : t < L := by omega
      obtain ⟨d, rfl⟩ := Int.eq_ofNat_of_zero_le hx9.1
      have hdb : d ≤ 9999 := by omega
      have hj1 : IntKind.i64.wrap ((L : Int) - 1) = (L1 : Int) := by rw [IntWalk.i64_in _ (by omega)]; omega
      have hj2 : (L : Int) - 1 = (L1 : Int) := by omega
      have hk1 : IntKind.i64.wrap ((L1 : Int) - (i : Int)) = (t : Int) := by rw [IntWalk.i64_in _ (by omega)]; omega
      have hk2 : (L1 : Int) - (i : Int) = (t : Int) := by omega
      have Hdx := Lib.hid hdx
      have Hdx1 := Lib.hid hdx1
      have Hxt := Lib.hid hxt
      have Hxg := Lib.hid hxg
      have HL1 := Lib.hid hL1
      clear hat hix hdx hdx1 hxm hx9 hxt hxg hgk hL1
      by_cases hd0 : 0 < d
      · have kF := Lib.hid (HFF.out t d wr Hxg.out (by omega) htL Hbw.out)
        have hfl := Hf.out t d Hxg.out (by omega) htL
        have hnx : T.ofDigs f (xs.drop i) = .c d (f t) (T.ofDigs f (xs.drop (i + 1))) := by rw [Hdx.out, T.ofDigs_next (by omega), Hxt.out, Hdx1.out]
        have Hnx := Lib.hid hnx
        clear hnx
        go_wp2_with (go_at_fn k; refine (kF.out).mono ?_)
        rintro ee w5 ⟨aN, cN, rfl, hoN, hbN⟩
        obtain ⟨LN, hLN⟩ : ∃ LN, LN = (f t).enc.length := ⟨_, rfl⟩
        rw [← hLN] at hoN hfl ⊢
        have hL0 : 0 < LN := by rw [hLN, T.enc_len]; omega
        obtain ⟨gN, cN', hform⟩ := Joins.ownsRow_form hoN hL0
        simp only [Value.slice.injEq] at hform
        obtain ⟨rfl, _, rfl⟩ := hform
        have hslN := Sl.of_own hoN
        obtain ⟨bN, oN, heN, hatN⟩ := hslN.2.2.2 hL0
        simp only [Option.some.injEq, Addr.mk.injEq, and_true] at heN
        obtain ⟨rfl, rfl⟩ := heN
        have HatN := Lib.hid hatN
        have HcN := Lib.hid (And.intro hslN.2.1 hslN.2.2.1)
        have hgNb : wr.heap.size ≤ gN := (hoN.lt gN rfl).1
        have Hbr5 := Lib.hid hbN
        have Hb5 := Lib.hid (Hbw.out.trans (hbN.mono hws))
        have hw5 := Hb5.out.size
        have HO5 := Lib.hid (ownsRow_below' Ho.out Hbr5.out)
        have HT5 := Lib.hid (HTF.out.below Hbr5.out)
        have HLh := Lib.hid hLN
        clear hL0 hLN hslN hatN hoN hbN
        go_wp2_with (first
          | (at_builtin; refine wpList_append_own_at _ rfl (.tmp 19) (.tmp 29) 50 rfl w4.heap.size 54 i0 _ 2 32 Try.underlying50 hi hz0 hz1 hz2 rfl (by decide) _ qn qs rfl (HO5.out.alloc _) ⟨w5.heap.size, 0, none⟩ 1 1 [.int .i64 d, .slice (some ⟨gN, 0, none⟩) LN cN] rfl rfl (cell_two_new _ _ _ _) (two_one _ _ rfl rfl) (by unfold maxLen; omega) (by omega) (by simp; omega) ?_; intro v6 w6 ho6 hg6 _ hat6))
        obtain ⟨a6, c6, rfl⟩ := own_shape ho6
        have hfin : OdLoop w4 f xs L t (.slice a6 (qn + 1) c6) (.int .i64 ((i : Int) + 1)) w6 := by
          have hTa := (HT5.out.below ((Below.refl w5.heap.size w5).alloc (Nat.le_refl _) (.cells #[.int .i64 d, .slice (some ⟨gN, 0, none⟩) LN cN] 54))).snoc (n := (d : Int))
            (HatN.out.alloc (T.enc_ne (f t)) _) (own_row_lt Ho.out hgNb) (by have := HcN.out.1; have := HLh.out; omega) HcN.out.2
          rw [← HLh.out] at hTa
          refine ⟨i + 1, q.app (.c d (f t) .z), _, a6, c6, qn + 1, by go_num, by have := Hgk.out; omega, ?_, by rw [T.app_cnt, Hqn.out]; rfl, by omega, rfl, ho6,
            hTa.go hg6 (fun _ _ => .inl rfl) (fun k e => ?_), (Hb5.out.alloc hw5 _).grown hg6 (by simp; omega) (fun k e => (HO5.out.lt k e).1)⟩
          · rw [Hdi.out, Hnx.out, T.app_assoc]; rfl
          · rcases hat6 with h | h
            · exact .inl h
            · right
              rw [h] at e
              cases e
              exact Nat.le_refl _
        have Hfin := Lib.hid hfin
        clear ho6 hg6 hat6 hfin
        go_roundg t
        case measure => omega
        case rel => exact Hfin.out
      · obtain rfl : d = 0 := by omega
        have Hsk := Lib.hid (show T.ofDigs f (xs.drop i) = T.ofDigs f (xs.drop (i + 1)) by rw [Hdx.out, Hdx1.out]; exact T.ofDigs_skip)
        go_wp2_with fail
        go_roundg t
        case measure => omega
        case rel => exact ⟨i + 1, q, qs, a8, c8, qn, by go_num, by have := Hgk.out; omega, by rw [Hdi.out, Hsk.out], Hqn.out, by omega, rfl, Ho.out, HTF.out, Hbw.out⟩
    · have hgk0 : gk = 0 := by have := Hgk.out; omega
      subst hgk0
      have hrt : q = res := by rw [HR.out, Hdi.out, List.drop_eq_nil_of_le (by rw [X1.out]; omega), T.ofDigs, T.app_z]
      have htm := Tm.of_own Ho.out (HTF.out.tc) Hqn.out.symm
      rw [hrt] at htm
      have k6 := Lib.hid (fittingOrdN_any a8 qn c8 res wr (by have := Hlen.out; omega) htm)
      clear hrt htm hgk
      go_wp2_with fail
      refine (k6.out).mono ?_
      rintro ee w7 ⟨a7, c7, rfl, hnn, ho7, hb7⟩
      have hfin : IntPostN w4 (T.fit res) (.returned (.slice a7 (T.fit res).length c7)) w7 :=
        ⟨a7, c7, rfl, hnn, Joins.ownsRow_le ho7 Hbw.out.size, Hbw.out.trans (hb7.mono Hbw.out.size)⟩
      have Hfin := Lib.hid hfin
      clear ho7 hb7 hnn hfin
      go_wp2_with fail
      go_ret
      exact Hfin.out

/-- The digits of a number in a base, as a slice of digits. -/
theorem ordOfDigits_any (k : Nat) (EK : ∀ args w, (callFunc k args).run Try.prog w = .ok (.enter k args) w) (ls : Array Value) (f : Nat → T) (n b : Nat) (w : World) (hb : 2 ≤ b) (hb2 : b ≤ 90) (hn : n ≤ 1000000000) (hlen : (T.dig f b n).enc.length ≤ 2000)
    (hf : ∀ e, b ^ e ≤ n → (f e).enc.length ≤ 60) (ao : Option Addr) (L cap : Nat) (hL : L = (T.digs b n).length) (h : Sl w ao L cap (T.digI b n)) (HF : ∀ (e : Nat) (wr : World), b ^ e ≤ n → Below w.heap.size w wr → Calls Try.prog k (#[.int .i64 e] ++ ls) wr (IntPost wr (f e).enc)) :
    Calls Try.prog 67 #[.slice ao L cap, .func (.func k) #[] ls] w (IntPostN w (T.fit (T.dig f b n))) := by
  have hpow : ∀ (e : Nat) (x : Int), (T.digI b n)[L - 1 - e]? = some x → 0 < x → e < L → b ^ e ≤ n := by
    intro e x hx h0 he
    rw [T.digI_get (t := e) hb (by omega)] at hx
    have hx' := Option.some.inj hx
    rcases Nat.lt_or_ge n (b ^ e) with h1 | h1
    · rw [Nat.div_eq_of_lt h1, Nat.zero_mod] at hx'; omega
    · exact h1
  rw [T.dig_ofDigs hb] at hlen ⊢
  refine ofDigits_any k EK ls f ao L cap _ w h (by rw [hL]; exact T.digs_cnt hb hn) ?_ hlen (fun e x h1 h2 h3 => hf e (hpow e x h1 h2 h3)) (fun e x wr h1 h2 h3 h4 => HF e wr (hpow e x h1 h2 h3) h4)
  intro x hx
  obtain ⟨i, hi, rfl⟩ := List.mem_iff_getElem.1 hx
  have hil : i < (T.digs b n).length := by rw [← T.digI_len]; exact hi
  have hg := T.digI_get (n := n) (i := i) (t := (T.digs b n).length - 1 - i) hb (by omega)
  rw [List.getElem?_eq_getElem hi] at hg
  rw [Option.some.inj hg]
  have h1 : n / b ^ ((T.digs b n).length - 1 - i) % b < b := Nat.mod_lt _ (by omega)
  omega

end Go.Proofs.Ytfclhepmakhimaa

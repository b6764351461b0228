/- OrdNext: the model's answer. -/
import Derived.Test.YthalogciiochfaaNext
import Derived.Test.YthalogciiochfaaMakeS
namespace Go.Proofs.Ythalogciiochfaa
set_option maxRecDepth 100000
open Go.RowKit

theorem EC.renum {w : World} {d e r : T} {n m : Int} {es : List Value} (h : EC w (d.app (.c n e r)) es) : EC w (d.app (.c m e r)) es := by
  induction d generalizing es with
  | z => exact h
  | c k f q _ ih =>
    obtain ⟨b, off, cap, cs', rfl, h1, h2, h3, h4⟩ := h
    exact ⟨b, off, cap, _, rfl, h1, h2, h3, ih h4⟩

theorem T.times_set (d e : T) (n m : Int) : (ints (d.app (.c n e .z)).times).set d.cnt (.int .i64 m) = ints (d.app (.c m e .z)).times := by
  rw [T.times_app, T.times_app]
  simp only [ints, List.map_append, T.times, List.map_cons, List.map_nil]
  rw [List.set_append_right _ _ (by simp [T.times_len])]
  simp [T.times_len]

theorem one_kept {wr w1 : World} {B e n size : Nat} {v : Value} {xs : List Value} (ho : wr.ownsRow B e size v n xs) {a : Value} {ty : TypeId} {o2 : Obj}
    (hg : ((wr.alloc (.cells #[a] ty)).alloc o2).grownBy w1 v.ownBlock) : w1.cell? ⟨wr.heap.size, 0, none⟩ = some a := by
  refine hg.cell (a := ⟨wr.heap.size, 0, none⟩) ?_ ?_
  · have h1 : ((wr.alloc (.cells #[a] ty)).alloc o2).cell? ⟨wr.heap.size, 0, none⟩ = (wr.alloc (.cells #[a] ty)).cell? ⟨wr.heap.size, 0, none⟩ := World.cell?_alloc_past _ _ _ (by simp)
    rw [h1, Joins.cell_alloc_mark_at _ _ _ _ _ _ rfl]
    rfl
  · intro h
    have := (ho.lt _ h.symm).2
    exact absurd this (Nat.lt_irrefl _)

set_option maxHeartbeats 2000000 in
theorem spec_OrdNext (ao : Option Addr) (len cap : Nat) (xs : List Int) (w : World) (h : Sl w ao len cap xs) :
    Calls Try.prog 36 #[.slice ao len cap] w fun e w' => ∃ a' c', e = .returned (.tuple #[.slice a' (T.nextRow xs).length c', .bool (T.nextOk xs)]) ∧
      w'.ownsRow w.heap.size 3 1 (.slice a' (T.nextRow xs).length c') (T.nextRow xs).length (ints (T.nextRow xs)) ∧ Below w.heap.size w w' := by
  rcases vld_tf xs with h1 | h1
  · have k1 := Lib.hid (spec_valid ao len cap xs w h h1)
    have H := Lib.hid h
    obtain ⟨b, off, t, rfl, rfl, hs, hos, hat, hn, hl, hp, hc, hm⟩ := h.valid h1
    have hr : T.nextRow t.enc = T.fit t.next := by rw [T.nextRow, if_pos h1, hos]
    have hr2 : T.nextOk t.enc = T.vldB t.next.enc := by rw [T.nextOk, h1, hos]; rfl
    have hk : T.kindRow t.enc = t.kind := by rw [T.kindRow, if_pos h1, hos]
    rw [hr, hr2]
    have HA := Lib.hid hat
    have HN := Lib.hid hn
    have HS := Lib.hid hs
    have HK := Lib.hid hk
    have hcl : t.cnt ≤ 60 := by have := T.cnt_le t; have := T.enc_len t; omega
    obtain ⟨i0, hi, hz0, hz1, hz2⟩ := info_parts info_int
    obtain ⟨j0, hj, hy0, hy1, hy2⟩ := info_parts info_ints
    -- what comes behind l1Make, in either way
    have fin : ∀ a' c' w5, w5.ownsRow w.heap.size 3 1 (.slice a' t.next.enc.length c') t.next.enc.length (ints t.next.enc) → Below w.heap.size w w5 →
        Calls Try.prog 33 #[.slice a' t.next.enc.length c'] w5 fun e w' => e = .returned (.bool (T.vldB t.next.enc)) ∧ Below w5.heap.size w5 w' := fun a' c' w5 h5 _ => spec_OrdValid a' t.next.enc.length c' t.next.enc w5 (Sl.of_own h5)
    have FIN := Lib.hid fin
    clear h1 hos hs hat hn hr hr2 hk fin
    go_enter Try.func36, Try.ntmps36
    go_wp2_with fail
    refine (k1.out).mono ?_
    rintro ee w1 ⟨rfl, hb1⟩
    have Hb1 := Lib.hid hb1
    have k2 := Lib.hid (l1Terms_old b off len cap t.enc t w1 HN.out.symm (by omega) hc hm (HA.out.below hb1 (HA.out.lt (T.enc_ne t))) rfl)
    clear hb1
    go_wp2_with fail
    refine (k2.out).mono ?_
    rintro ee w2 ⟨v1, v2, es, rfl, ho1, ho2, hE, _, hb2⟩
    have Hb2 := Lib.hid (Hb1.out.trans (hb2.mono Hb1.out.size))
    have Hb12 := Lib.hid hb2
    have k3 := Lib.hid (spec_OrdKind (some ⟨b, off, none⟩) len cap t.enc w2 (H.out.below Hb2.out))
    obtain ⟨a1, c1, rfl, o1⟩ := own_form ho1
    obtain ⟨a2, c2, rfl, o2⟩ := own_form ho2
    have Ho1 := Lib.hid ho1
    have Ho2 := Lib.hid ho2
    have HE := Lib.hid hE
    clear hb2 ho1 ho2 hE o1 o2
    go_wp2_with fail
    refine (k3.out).mono ?_
    rintro ee w3 ⟨rfl, hb3⟩
    have Hb3 := Lib.hid (Hb2.out.trans (hb3.mono Hb2.out.size))
    have Hb13 := Lib.hid (Hb12.out.trans (hb3.mono Hb12.out.size))
    have Ho1a := Lib.hid (ownsRow_below' Ho1.out hb3)
    have Ho2a := Lib.hid (ownsRow_below' Ho2.out hb3)
    rw [HK.out]
    clear hb3
    by_cases hk1 : t.kind = 1
    · have hkb : (t.kind == 1) = true := by rw [hk1]; rfl
      have hpos : 0 < t.cnt := by
        rcases Nat.eq_zero_or_pos t.cnt with h | h
        · rw [T.cnt_zero h] at hk1; simp [T.kind] at hk1
        · exact h
      obtain ⟨d, n, e, hd1, hd2⟩ := T.last_of t hpos
      have hnx : t.next = d.app (.c (n + 1) e .z) := by rw [T.next, if_pos hk1, hd1, T.bump_app]
      have HX := Lib.hid hnx
      obtain ⟨g1, cc, hv⟩ := Joins.ownsRow_form Ho1a.out hpos
      simp only [Value.slice.injEq] at hv
      obtain ⟨rfl, _, rfl⟩ := hv
      have hdc : t.cnt - 1 = d.cnt := by omega
      have x1 : w3.cell? ⟨g1, t.cnt - 1, none⟩ = some (.int .i64 n) := by
        rw [Ho1a.out.cellAt _ (by omega), hdc, List.getElem?_map, T.times_pick hd1.symm rfl]; rfl
      have f1 := Ho1a.out.frozenAt (t.cnt - 1)
      have hnb := HS.out
      rw [hd1] at hnb
      have hn1 := (T.nf_last hnb).1
      have hn2 := (T.nf_last hnb).2.1
      have Hd1 := Lib.hid hd1
      have Hdc := Lib.hid hdc
      have hge : 1 ≤ t.cnt := by omega
      have hst := Ho1a.out.stored (t.cnt - 1) (.int .i64 (n + 1))
      have hbs : Below w1.heap.size w1 (w3.setCell ⟨g1, t.cnt - 1, none⟩ (.int .i64 (n + 1))) := Hb13.out.setCell (p := ⟨g1, t.cnt - 1, none⟩) (Ho1.out.lt g1 rfl).1 _
      have hslt : Sl (w3.setCell ⟨g1, t.cnt - 1, none⟩ (.int .i64 (n + 1))) (some ⟨g1, 0, none⟩) t.cnt c1 t.next.times := by
        have h2 := hst.1
        rw [show (t.times.map (.int .i64)) = ints t.times from rfl, hdc] at h2
        have h3 : (ints t.times).set d.cnt (.int .i64 (n + 1)) = ints t.next.times := by rw [HX.out, Hd1.out, T.times_set]
        rw [h3] at h2
        rw [hdc]
        exact Sl.of_own h2
      have hex : Ex (w3.setCell ⟨g1, t.cnt - 1, none⟩ (.int .i64 (n + 1))) a2 t.cnt t.next := by
        have h2 := Ho2a.out.kept hst.2 (own_ne Ho2a.out Ho1a.out (by decide))
        refine Ex.of_own h2 ?_ ?_
        · rw [HX.out]
          have h3 := HE.out
          rw [Hd1.out] at h3
          exact (h3.renum).below hbs
        · rw [HX.out]
          have := congrArg T.cnt Hd1.out
          rw [T.app_cnt] at this ⊢
          simpa [T.cnt] using this
      have hll : t.next.enc.length ≤ 1000000000000 := by
        rw [HX.out, T.enc_len, T.app_body, T.body_c]
        have h5 := congrArg (fun t => t.body.length) Hd1.out
        simp only [T.app_body, T.body_c] at h5
        have := T.enc_len t
        have := HN.out
        simp [T.body] at h5 ⊢
        omega
      have k4 := Lib.hid (l1Make_any (some ⟨g1, 0, none⟩) a2 t.cnt c1 c2 t.next _ hll hex hslt)
      have Hbs := Lib.hid (Hb1.out.trans (hbs.mono Hb1.out.size))
      clear hd1 hdc hnb hnx hk1 hst hbs hslt hex hll
      go_wp2_with fail
      refine (k4.out).mono ?_
      rintro ee w5 ⟨a5, c5, rfl, ho5, hb5⟩
      have Hb5 := Lib.hid (Hbs.out.trans (hb5.mono Hbs.out.size))
      have Ho5 := Lib.hid (Joins.ownsRow_le (base' := w.heap.size) ho5 Hbs.out.size)
      clear hb5 ho5
      have k5 := Lib.hid (FIN.out a5 c5 w5 Ho5.out Hb5.out)
      go_wp2_with fail
      refine (k5.out).mono ?_
      rintro ee w6 ⟨rfl, hb6⟩
      have Hb6 := Lib.hid (Hb5.out.trans (hb6.mono Hb5.out.size))
      have Ho6 := Lib.hid (ownsRow_below' Ho5.out hb6)
      clear hb6
      rcases vld_tf t.next.enc with hv | hv
      · have hf : T.fit t.next = t.next.enc := by rw [T.fit, if_pos hv]
        have HF := Lib.hid hf
        have HV := Lib.hid hv
        rw [hv]
        clear hf hv
        go_wp2_with fail
        go_ret2
        exact ⟨a5, c5, by rw [HF.out, HV.out]; rfl, by rw [HF.out]; exact Ho6.out, Hb6.out⟩
      · have hf : T.fit t.next = [] := by rw [T.fit, if_neg (by rw [hv]; simp)]
        have HF := Lib.hid hf
        have HV := Lib.hid hv
        rw [hv]
        clear hf hv
        go_wp2_with fail
        go_ret2
        exact ⟨_, 0, by rw [HF.out, HV.out]; rfl, by rw [HF.out]; exact World.ownsRow_lit w6 #[] 0 (by have := Hb6.out.size; omega) (by simp [maxLen]) rfl, Hb6.out.alloc (by have := Hb6.out.size; omega) _⟩
    · have hkb : (t.kind == 1) = false := by simpa using hk1
      have hnx : t.next = t.app (.c 1 .z .z) := by rw [T.next, if_neg hk1]
      have HX := Lib.hid hnx
      have hsz3 : w1.heap.size ≤ w3.heap.size := Hb13.out.size
      clear hnx hk1
      go_wp2_with (first
        | (at_builtin; refine wpList_append_own _ rfl (.tmp 31) (.tmp 32) 23 rfl w1.heap.size 3 i0 (.int .i64 0) 1 8 Try.underlying23 hi hz0 hz1 hz2 rfl (by decide) _ t.cnt (ints t.times) rfl (Ho1a.out.alloc _) ⟨w3.heap.size, 0, none⟩ 1 1 [.int .i64 1] rfl rfl (cell_one_new _ _ _) (ints_oneCell _ [1]) (by unfold maxLen; omega) (by omega) (by simp; omega) ?_; intro v5 w5 ho5 hg5 _; have hsz5 := le_of_alloc hg5; have Ho2b := Lib.hid (kept_of Ho2a.out hg5 (own_ne Ho2a.out Ho1a.out (by decide))))
        | (at_builtin; refine wpList_append_own _ rfl (.tmp 34) (.tmp 36) 71 rfl w1.heap.size 23 j0 (.slice none 0 0) 1 24 Try.underlying71 hj hy0 hy1 hy2 rfl (by decide) _ t.cnt es rfl ((Ho2b.out.alloc _).alloc _) ⟨w5.heap.size + 1, 0, none⟩ 1 1 [.slice (some ⟨w5.heap.size, 0, none⟩) 1 1] rfl rfl (cell_one_at _ _ _ _ (by simp)) (slice_oneCell _ _ _) (by unfold maxLen; omega) (by omega) (by simp; omega) ?_; intro v6 w6 ho6 hg6 _))
      have hb5 : Below w1.heap.size w1 w5 := (Hb13.out.alloc hsz3 _).grown hg5 (by simp; omega) (fun k hk => (Ho1a.out.lt k hk).1)
      have hb6 : Below w1.heap.size w1 w6 := ((hb5.alloc (by omega) _).alloc (by simp; omega) _).grown hg6 (by simp; omega) (fun k hk => (Ho2b.out.lt k hk).1)
      have hzero := one_kept Ho2b.out hg6
      have ho5' := kept_of (ho5.alloc (.cells #[.int .i64 0] 3)) hg6 (own_ne ho5 Ho2b.out (by decide))
      obtain ⟨a5, c5, rfl, _⟩ := own_form ho5'
      obtain ⟨a6, c6, rfl, _⟩ := own_form ho6
      have hslt : Sl w6 a5 (t.cnt + 1) c5 t.next.times := by
        refine Sl.of_own (B := w1.heap.size) ?_
        rw [HX.out, T.times_app]
        simpa [ints, T.times] using ho5'
      have hat6 : At w6 w5.heap.size 0 (T.enc .z) := by
        intro j hj
        obtain rfl : j = 0 := by simp [T.enc, T.body] at hj; omega
        exact hzero
      have hex : Ex w6 a6 (t.cnt + 1) t.next := by
        refine Ex.of_own ho6 ?_ ?_
        · rw [HX.out]
          exact (HE.out.below hb6).snoc hat6 (by decide) (by decide)
        · rw [HX.out, T.app_cnt]; rfl
      have hll : t.next.enc.length ≤ 1000000000000 := by
        rw [HX.out, T.enc_app_len]
        have := HN.out
        omega
      have k4 := Lib.hid (l1Make_any a5 a6 (t.cnt + 1) c5 c6 t.next w6 hll hex hslt)
      have Hbs := Lib.hid (Hb1.out.trans (hb6.mono Hb1.out.size))
      clear hb5 hb6 hzero ho5' hslt hat6 hex hll ho5 ho6 hg5 hg6
      go_wp2_with fail
      refine (k4.out).mono ?_
      rintro ee w7 ⟨a7, c7, rfl, ho7, hb7⟩
      have Hb7 := Lib.hid (Hbs.out.trans (hb7.mono Hbs.out.size))
      have Ho7 := Lib.hid (Joins.ownsRow_le (base' := w.heap.size) ho7 Hbs.out.size)
      clear hb7 ho7
      have k5 := Lib.hid (FIN.out a7 c7 w7 Ho7.out Hb7.out)
      go_wp2_with fail
      refine (k5.out).mono ?_
      rintro ee w8 ⟨rfl, hb8⟩
      have Hb8 := Lib.hid (Hb7.out.trans (hb8.mono Hb7.out.size))
      have Ho8 := Lib.hid (ownsRow_below' Ho7.out hb8)
      clear hb8
      rcases vld_tf t.next.enc with hv | hv
      · have hf : T.fit t.next = t.next.enc := by rw [T.fit, if_pos hv]
        have HF := Lib.hid hf
        have HV := Lib.hid hv
        rw [hv]
        clear hf hv
        go_wp2_with fail
        go_ret2
        exact ⟨a7, c7, by rw [HF.out, HV.out]; rfl, by rw [HF.out]; exact Ho8.out, Hb8.out⟩
      · have hf : T.fit t.next = [] := by rw [T.fit, if_neg (by rw [hv]; simp)]
        have HF := Lib.hid hf
        have HV := Lib.hid hv
        rw [hv]
        clear hf hv
        go_wp2_with fail
        go_ret2
        exact ⟨_, 0, by rw [HF.out, HV.out]; rfl, by rw [HF.out]; exact World.ownsRow_lit w8 #[] 0 (by have := Hb8.out.size; omega) (by simp [maxLen]) rfl, Hb8.out.alloc (by have := Hb8.out.size; omega) _⟩
  · have k1 := Lib.hid (spec_valid ao len cap xs w h h1)
    have hr : T.nextRow xs = [] := by rw [T.nextRow, if_neg (by rw [h1]; simp)]
    have hr2 : T.nextOk xs = false := by rw [T.nextOk, h1]; rfl
    rw [hr, hr2]
    clear h1 hr hr2
    go_enter Try.func36, Try.ntmps36
    go_wp2_with fail
    refine (k1.out).mono ?_
    rintro ee w1 ⟨rfl, hb1⟩
    have Hb1 := Lib.hid hb1
    clear hb1
    go_wp2_with fail
    go_ret2
    exact ⟨_, 0, rfl, World.ownsRow_lit w1 #[] 0 (by have := Hb1.out.size; omega) (by simp [maxLen]) rfl, Hb1.out.alloc (by have := Hb1.out.size; omega) _⟩

end Go.Proofs.Ythalogciiochfaa

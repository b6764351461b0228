/- slices.Repeat at pointers to nodes (HydR's text, turned). -/
import Derived.Test.YtdcgcohfbcdnnaaMake
import Derived.Test.YtdcgcohfbcdnnaaShelf
import Derived.Laws.CopyOwn
import Derived.Deep.RegionLaw
import Derived.Test.YtdcgcohfbcdnnaaHydR
import Derived.Test.YtdcgcohfbcdnnaaTreeG
namespace Go.Proofs.Ytdcgcohfbcdnnaa
set_option maxRecDepth 100000
open Go.RowKit

theorem repP_made {w : World} {B N g : Nat} (h : w.ownsRow B 68 1 (.slice (some ⟨g, 0, none⟩) N N) N (madeCells (Value.pointer none).cells (N * 1)).toList) : w.heap[g]? = some (.cells (List.replicate N (Value.pointer none)).toArray 68 (0, 0)) := by
  rw [Nat.mul_one, show (Value.pointer none).cells = #[Value.pointer none] from rfl, toList_madeCells_one] at h
  exact own_tight h

def RepPRel (w : World) (vs : List Value) (n k : Nat) (v8 : Value) (wr : World) : Prop :=
  ∃ (q m : Nat) (zs : List Value), m = n * q ∧ 1 ≤ q ∧ q ≤ k ∧ v8 = .int .i64 m ∧ ((Rp k vs).take m ++ zs).length = n * k ∧ wr.heap[w.heap.size]? = some (.cells ((Rp k vs).take m ++ zs).toArray 68 (0, 0)) ∧ Below w.heap.size w wr

set_option maxHeartbeats 2000000 in
theorem repeatP_any (b off n cap k : Nat) (vs : List Value) (w : World) (hvl : vs.length = n) (hp : 1 ≤ n) (hk : 1 ≤ k) (hb : n * k ≤ 1000) (hone : ∀ u ∈ vs, u.oneCell' = true) (hnews : ∀ j u, vs[j]? = some u → w.cell? ((⟨b, off, none⟩ : Addr).add j) = some u) (hbw : b < w.heap.size) :
    Calls Try.prog 76 #[.slice (some ⟨b, off, none⟩) n cap, .int .i64 k] w fun e w' => e = .returned (.slice (some ⟨w.heap.size, 0, none⟩) (n * k) (n * k)) ∧
      w'.ownsRow w.heap.size 68 1 (.slice (some ⟨w.heap.size, 0, none⟩) (n * k) (n * k)) (n * k) (Rp k vs) ∧ Below w.heap.size w w' := by
  obtain ⟨i0, hi, hz0, hz1, hz2⟩ := info_parts info_node
  have hsz : (Try.prog.info? 68).map (·.size) = some 1 := by rw [hi]; simp [hz1]
  have hn1 : n ≤ 1000 := by
    have := Nat.mul_le_mul (Nat.le_refl n) hk
    omega
  have hk1 : k ≤ 1000 := by
    have := Nat.mul_le_mul hp (Nat.le_refl k)
    omega
  have km := Lib.hid (fun w => Try.bits_Mul n k (by omega) (by omega) w)
  rw [show n * k / 18446744073709551616 = 0 from Nat.div_eq_of_lt (by omega), show n * k % 18446744073709551616 = n * k from Nat.mod_eq_of_lt (by omega)] at km
  have hRl : (Rp k vs).length = n * k := by rw [Rp_len, hvl]
  have hR0 : (Rp k vs).take n = vs := by
    obtain ⟨k', rfl⟩ : ∃ k', k = k' + 1 := ⟨k - 1, by omega⟩
    rw [Rp, List.take_append_of_le_length (by omega), List.take_of_length_le (by omega)]
  have hstep : ∀ q c : Nat, q ≤ k → c ≤ n * (k - q) → (Rp k vs).take (n * q) ++ (Rp k vs).take c = (Rp k vs).take (n * q + c) := by
    intro q c h1 h2
    have := Rp_take (k := k) (q := q) (c := c) (xs := vs) h1 (by rw [hvl]; exact h2)
    rw [hvl] at this
    exact this
  have honeR : ∀ j, ∀ u ∈ (Rp k vs).take j, u.oneCell' = true := fun j u hu => hone u (Rp_mem (List.mem_of_mem_take hu))
  obtain ⟨N, hN⟩ : ∃ N, N = n * k := ⟨_, rfl⟩
  have hnN : n ≤ N := by rw [hN]; exact Nat.le_mul_of_pos_right n hk
  have hmin : Nat.min n N = n := Nat.min_eq_left hnN
  rw [← hN] at km hRl hb ⊢
  obtain ⟨g, hg⟩ : ∃ g, g = w.heap.size := ⟨_, rfl⟩
  have hst : ∀ wr, Hid (wr.heap[g]? = some (.cells (splice (List.replicate N (Value.pointer none)) 0 vs).toArray 68 (0, 0))) → Below g w wr → RepPRel w vs n k (.int .i64 (vs.length : Nat)) wr := by
    intro wr h1 h2
    refine ⟨1, n, List.replicate (N - n) (.pointer none), by omega, Nat.le_refl _, hk, by rw [hvl], ?_, ?_, by rw [← hg]; exact h2⟩
    · rw [hR0, List.length_append, hvl, List.length_replicate]; omega
    · rw [← hg, h1.out]
      simp [splice, hR0, hvl]
  have hend : ∀ wr v8, RepPRel w vs n k v8 wr → ∃ m : Nat, v8 = .int .i64 m ∧ 1 ≤ m ∧ m ≤ N := by
    rintro wr v8 ⟨q, m, zs, rfl, h1, h2, h3, h4, _⟩
    refine ⟨n * q, h3, by have := Nat.mul_le_mul hp h1; omega, ?_⟩
    rw [hN]; exact Nat.mul_le_mul (Nat.le_refl n) h2
  have hfin : ∀ wr, RepPRel w vs n k (.int .i64 (N : Nat)) wr → wr.ownsRow w.heap.size 68 1 (.slice (some ⟨g, 0, none⟩) N N) N (Rp k vs) ∧ Below w.heap.size w wr := by
    rintro wr ⟨q, m, zs, hm, h1, h2, h3, h4, h5, h6⟩
    have hmN : m = N := by simp at h3; omega
    rw [hmN, List.take_of_length_le (by omega), List.length_append, hRl] at h4
    have hz : zs = [] := List.eq_nil_of_length_eq_zero (by omega)
    rw [hmN, List.take_of_length_le (by omega), hz, List.append_nil, ← hg] at h5
    exact ⟨tight_own h5 (by omega) hRl (by unfold maxLen; omega), h6⟩
  have hgo : ∀ wr (m : Nat), RepPRel w vs n k (.int .i64 (m : Nat)) wr → m < N → ∃ zs, wr.heap[g]? = some (.cells ((Rp k vs).take m ++ zs).toArray 68 (0, 0)) ∧ ((Rp k vs).take m ++ zs).length = N ∧ Below g w wr ∧
      ∀ w4, Hid (w4.heap[g]? = some (.cells (splice ((Rp k vs).take m ++ zs) m ((Rp k vs).take (Nat.min m (N - m)))).toArray 68 (0, 0))) → Below g w w4 → RepPRel w vs n k (.int .i64 ((m + Nat.min m (N - m) : Nat) : Int)) w4 := by
    rintro wr m ⟨q, m', zs, hm, h1, h2, h3, h4, h5, h6⟩ hlt
    obtain rfl : m = m' := by simp at h3; omega
    rw [← hg] at h5 h6
    rw [← hN] at h4
    refine ⟨zs, h5, h4, h6, fun w4 k1 k2 => ?_⟩
    have hc : Nat.min m (N - m) ≤ n * (k - q) := by
      rw [Nat.mul_sub, ← hm, ← hN]; exact Nat.min_le_right _ _
    have htl : ((Rp k vs).take m).length = m := by rw [List.length_take, hRl]; omega
    have hcl : ((Rp k vs).take (Nat.min m (N - m))).length = Nat.min m (N - m) := by
      rw [List.length_take, hRl]
      exact Nat.min_eq_left (by have : Nat.min m (N - m) ≤ m := Nat.min_le_left _ _; omega)
    have hzl : zs.length = N - m := by rw [List.length_append, htl] at h4; omega
    have hsp : splice ((Rp k vs).take m ++ zs) m ((Rp k vs).take (Nat.min m (N - m))) = (Rp k vs).take (m + Nat.min m (N - m)) ++ zs.drop (Nat.min m (N - m)) := by
      unfold splice
      have e1 : ((Rp k vs).take m ++ zs).take m = (Rp k vs).take m := by
        rw [List.take_append_of_le_length (by omega), List.take_of_length_le (by omega)]
      have e2 : ((Rp k vs).take m ++ zs).drop (m + ((Rp k vs).take (Nat.min m (N - m))).length) = zs.drop (Nat.min m (N - m)) := by
        rw [hcl, List.drop_append, htl, List.drop_of_length_le (by omega)]
        simp
      have e3 := hstep q (Nat.min m (N - m)) h2 hc
      rw [← hm] at e3
      rw [e1, e2, ← List.append_assoc, e3]
    rw [hsp] at k1
    have hml : m + Nat.min m (N - m) ≤ N := by have : Nat.min m (N - m) ≤ N - m := Nat.min_le_right _ _; omega
    have hlen : ((Rp k vs).take (m + Nat.min m (N - m)) ++ zs.drop (Nat.min m (N - m))).length = n * k := by
      rw [List.length_append, List.length_take, hRl, List.length_drop, hzl, ← hN]
      omega
    rcases Nat.le_total m (N - m) with hle | hle
    · have hmn : Nat.min m (N - m) = m := Nat.min_eq_left hle
      rw [hmn] at k1 hlen ⊢
      have hq2 : q + q ≤ k := by
        have h7 : n * (q + q) ≤ n * k := by rw [Nat.mul_add, ← hm, ← hN]; omega
        exact Nat.le_of_mul_le_mul_left h7 (by omega)
      exact ⟨q + q, m + m, _, by rw [Nat.mul_add, ← hm], by omega, hq2, rfl, hlen, by rw [← hg]; exact k1.out, by rw [← hg]; exact k2⟩
    · have hmn : Nat.min m (N - m) = N - m := Nat.min_eq_right hle
      rw [hmn, show m + (N - m) = N by omega] at k1 hlen ⊢
      exact ⟨k, N, _, hN, hk, Nat.le_refl _, rfl, hlen, by rw [← hg]; exact k1.out, by rw [← hg]; exact k2⟩
  have Hst := Lib.hid hst
  have Hend := Lib.hid hend
  have Hfin := Lib.hid hfin
  have Hgo := Lib.hid hgo
  have Hnews := Lib.hid hnews
  have Hone := Lib.hid hone
  have HoneR := Lib.hid honeR
  have Hvl := Lib.hid hvl
  have HRl := Lib.hid hRl
  have Hg := Lib.hid hg
  have Hmin := Lib.hid hmin
  have hgw : g ≤ w.heap.size := by omega
  have hbg : b < g := by rw [hg]; exact hbw
  rw [← hg]
  clear hst hend hfin hgo hnews hone honeR hvl hRl hg hmin hR0 hstep hN hbw
  go_enter Try.func76, Try.ntmps76
  go_wp2_with fail
  refine (km.out w).mono ?_
  rintro ee w0 ⟨rfl, rfl⟩
  have hz : ((0 : Nat) : Int) = 0 := rfl
  go_wp2_with (first
    | (at_make; refine wpList_make_full _ rfl (.tmp 29) (.tmp 29) 81 rfl w0.heap.size 68 i0 _ 1 Try.underlying81 hi hz0 hz1 .i64 .i64 _ _ N rfl rfl rfl rfl (by rw [hz2]; omega) (by unfold maxLen; omega) (Nat.le_refl _) ?_; intro w1 hown hg1; have Hb1 := Lib.hid (show Below g w0 w1 from by rw [Hg.out]; exact (Below.refl _ _).grown hg1 (Nat.le_refl _) (fun k hk => by cases hk)); have HG1 := Lib.hid (repP_made hown); rw [← Hg.out] at HG1; clear hown hg1; rw [← Hg.out]; have Hn1 := Lib.hid (show ∀ j u, vs[j]? = some u → w1.cell? ((⟨b, off, none⟩ : Addr).add j) = some u from fun j u hj => (Hb1.out.cell (p := (⟨b, off, none⟩ : Addr).add j) (by rw [Addr.add_lit]; exact hbg)).trans (Hnews.out j u hj)))
    | (with_reducible refine wpList_copy_splice (o := ⟨some 33, _, _, _, _, _⟩) rfl (.tmp 31) (.tmp 32) 81 81 rfl 68 Try.underlying81 hsz (some ⟨g, 0, none⟩) (some ⟨b, off, none⟩) N N n cap rfl rfl g 0 (List.replicate N (.pointer none)) 68 HG1.out vs (by rw [Hvl.out]; exact Hmin.out.symm) (fun _ => ⟨rfl, _, rfl, Hn1.out⟩) (by rw [Hvl.out, List.length_replicate]; omega) Hone.out g w0 Hb1.out (Nat.le_refl _) ?_; intro w2 hG2 hB2))
  have Hs2 := Lib.hid (Hst.out w2 hG2 hB2)
  clear hG2 hB2
  go_loopw [8] (fun v8 wr => RepPRel w0 vs n k v8 wr) (fun v8 _ => N - (intOf v8).toNat)
  case atStart => exact Hs2.out
  case round =>
    obtain ⟨m, rfl, hm1, hmN⟩ := Hend.out _ _ hrel
    have Hrel := Lib.hid hrel
    clear hrel
    by_cases hlt : m < N
    · obtain ⟨zs, h5, h4, h6, h7⟩ := Hgo.out wr m Hrel.out hlt
      obtain ⟨cs, hcs⟩ : ∃ cs, cs = (Rp k vs).take (Nat.min m (N - m)) := ⟨_, rfl⟩
      obtain ⟨cu, hcu⟩ : ∃ cu, cu = (Rp k vs).take m ++ zs := ⟨_, rfl⟩
      have hcl : cs.length = Nat.min m (N - m) := by
        rw [hcs, List.length_take, HRl.out]
        exact Nat.min_eq_left (by have : Nat.min m (N - m) ≤ m := Nat.min_le_left _ _; omega)
      have hsrc : ∀ j v, cs[j]? = some v → wr.drew.cell? ((⟨g, 0, none⟩ : Addr).add j) = some v := by
        intro j v hj
        have hjl := (List.getElem?_eq_some_iff.1 hj).1
        have hjm : j < m := by have h8 : Nat.min m (N - m) ≤ m := Nat.min_le_left _ _; omega
        rw [hcs, List.getElem?_take, if_pos (by omega)] at hj
        rw [Addr.add_lit, Nat.zero_add]
        have h9 : wr.drew.heap[g]? = some (.cells ((Rp k vs).take m ++ zs).toArray 68 (0, 0)) := h5
        rw [Joins.cell_of_block h9]
        simp [List.getElem?_append, hjm, hj, HRl.out]
        omega
      rw [← hcs, ← hcu] at h7
      rw [← hcu] at h5 h4
      have hone2 : ∀ v ∈ cs, v.oneCell' = true := by rw [hcs]; exact HoneR.out _
      have hml : Nat.min m (N - m) ≤ N - m := Nat.min_le_right _ _
      obtain ⟨M, hM⟩ : ∃ M, M = Nat.min m (N - m) := ⟨_, rfl⟩
      have hM1 : 1 ≤ M := by rw [hM]; exact Nat.le_min.2 ⟨hm1, by omega⟩
      rw [← hM] at h7 hcl hml
      have Hcl := Lib.hid hcl
      have HM := Lib.hid hM
      have H4 := Lib.hid h4
      have H5 := Lib.hid (show wr.drew.heap[g]? = some (.cells cu.toArray 68 (0, 0)) from h5)
      have H6 := Lib.hid (show Below g w0 wr.drew from h6.drew)
      have H7 := Lib.hid h7
      have Hsrc := Lib.hid hsrc
      have Hone2 := Lib.hid hone2
      clear hcs hcu hcl hsrc hone2 hM h4 h5 h6 h7
      have hNm : ¬ N = m := by omega
      have hwr : IntKind.i64.wrap ((m : Int) + (M : Int)) = (m : Int) + (M : Int) := IntWalk.i64_in _ (by omega)
      go_wp2_with fail
      go_region_law (refine step_copy_splice rfl (.tmp 41) (.tmp 44) 81 81 rfl 68 Try.underlying81 hsz (some ⟨g, m, none⟩) (some ⟨g, 0, none⟩) (N - m) (N - m) m N (by simp [Act.eval, Act.put]) (by simp [Act.eval, Act.put]) g m cu 68 H5.out cs (by rw [Hcl.out]; exact HM.out) (fun _ => ⟨rfl, _, rfl, Hsrc.out⟩) (by rw [Hcl.out, H4.out]; omega) Hone2.out g w0 H6.out (Nat.le_refl _) ?_; intro w4 hG4 hB4; rw [Hcl.out])
      have Hr4 := Lib.hid (H7.out w4 hG4 hB4)
      clear hG4 hB4
      simp [Act.put]
      go_wp2_with fail
      go_roundw
      case rel => exact (show RepPRel w0 vs n k (.int .i64 ((m : Int) + (M : Int))) _ from Hr4.out)
      case measure => simp [intOf]; omega
    · obtain rfl : m = N := by omega
      have hF := Lib.hid (Hfin.out wr Hrel.out)
      go_wp2_with fail
      go_ret
      rw [Hg.out]
      have h8 := hF.out
      rw [Hg.out] at h8
      exact ⟨rfl, h8⟩

end Go.Proofs.Ytdcgcohfbcdnnaa

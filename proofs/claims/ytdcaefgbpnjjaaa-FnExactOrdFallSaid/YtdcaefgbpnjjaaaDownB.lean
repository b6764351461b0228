/- The iterators of the steps down: 'stepsFrom'. -/
import Derived.Test.YtdcaefgbpnjjaaaDownA
namespace Go.Proofs.Ytdcaefgbpnjjaaa
open Go.RowKit Go.Shelf

attribute [local go_sem] Oper.semAt_some

namespace T
/-- So many steps down. -/
def it (v : Int) (t : T) : Nat → T
  | 0 => t
  | i + 1 => (it v t i).step v
/-- All ordinals so far are valid. -/
def VU (v : Int) (t : T) (i : Nat) : Prop := ∀ j, j ≤ i → vldB (it v t j).enc = true
/-- None before is 0. -/
def NZ (v : Int) (t : T) (i : Nat) : Prop := ∀ j, j < i → it v t j ≠ z
theorem VU.snoc {v : Int} {t : T} {i : Nat} (h : VU v t i) (h' : vldB (it v t (i + 1)).enc = true) : VU v t (i + 1) := fun j hj => by
  rcases Nat.lt_or_ge j (i + 1) with h1 | h1
  · exact h j (by omega)
  · obtain rfl : j = i + 1 := by omega
    exact h'
theorem NZ.snoc {v : Int} {t : T} {i : Nat} (h : NZ v t i) (h' : it v t i ≠ z) : NZ v t (i + 1) := fun j hj => by
  rcases Nat.lt_or_ge j i with h1 | h1
  · exact h j h1
  · obtain rfl : j = i := by omega
    exact h'
end T

theorem grown_of_below {w w' : World} (h : Below w.heap.size w w') (row : Option Nat) : w.grownBy w' row := ⟨h.os, h.tape, h.output, h.size, fun k hk _ => h.block k hk⟩

/-- What the iterator hands over: the row of the next ordinal, and whether it is valid. -/
abbrev Handed := Option Addr × Nat × Nat × Bool
def encsH (x : Handed) : Array Value := #[.slice x.1 x.2.1 x.2.2.1, .bool x.2.2.2]
def GH (v : Int) (t : T) (M rb i : Nat) (x : Handed) (W : World) : Prop :=
  i < M ∧ T.VU v t i ∧ T.it v t i ≠ .z ∧ x.2.1 = (T.fit (T.it v t (i + 1))).length ∧ x.2.2.2 = T.vldB (T.it v t (i + 1)).enc ∧ W.ownsRow rb 3 1 (.slice x.1 x.2.1 x.2.2.1) x.2.1 (ints (T.fit (T.it v t (i + 1))))
def SH (v : Int) (t : T) (M m : Nat) : Prop := m ≤ M ∧ T.NZ v t m ∧ (m = M ∨ T.it v t m = .z ∨ T.vldB (T.it v t m).enc = false)
def SpH (v : Int) (t : T) (M m : Nat) : Prop := 1 ≤ m ∧ m ≤ M ∧ T.VU v t (m - 1) ∧ T.NZ v t m

/-- Between two rounds of the iterator's own loop. -/
def InI (v : Int) (t : T) (lo hi B l : Nat) (J : Nat → World → Prop) (W2 : World) (pre : List Unit) (W : World) : Prop :=
  J pre.length W ∧ T.VU v t pre.length ∧ T.NZ v t pre.length ∧ Boxed W B 61 (.func (.yield l) #[] #[]) ∧ KL lo hi B W2 W ∧
    ∃ bb off c, Boxed W (B + 1) 22 (.slice (some ⟨bb, off, none⟩) (T.it v t pre.length).enc.length c) ∧ (T.it v t pre.length).enc.length ≤ c ∧ c ≤ maxLen ∧ At W bb off (T.it v t pre.length).enc ∧ (bb < lo ∨ hi ≤ bb)
def InX (v : Int) (t : T) (M : Nat) (J Jx : Nat → World → Prop) (c : Code) (_ : List Unit) (W : World) : Prop :=
  c = .ret ∧ ((∃ i, SH v t M i ∧ J i W) ∨ (∃ i, SpH v t M i ∧ Jx i W))

set_option maxRecDepth 100000 in
set_option maxHeartbeats 4000000 in
theorem stepsFrom1_seq (n : Nat) (v : Int) (hv0 : 0 ≤ v) (hv1 : v ≤ 99) (M lo hi rb bo bn b1 b2 bb off len cap : Nat) (t : T) (w0 : World) (hn : 4 ≤ n) (hM : M ≤ 3000) (hhi : hi ≤ w0.heap.size) (hrb : rb ≤ w0.heap.size + 4)
    (ho : bo < w0.heap.size ∧ (bo < lo ∨ hi ≤ bo)) (hbn : bn < w0.heap.size ∧ (bn < lo ∨ hi ≤ bn)) (h1 : b1 < w0.heap.size ∧ (b1 < lo ∨ hi ≤ b1)) (h2 : b2 < w0.heap.size ∧ (b2 < lo ∨ hi ≤ b2)) (hbb : bb < lo ∨ hi ≤ bb)
    (hco : w0.cell? ⟨bo, 0, none⟩ = some (.slice (some ⟨bb, off, none⟩) len cap)) (hcn : w0.cell? ⟨bn, 0, none⟩ = some (.func (.func 61) #[] #[.pointer (some ⟨b1, 0, none⟩), .pointer (some ⟨b2, 0, none⟩)]))
    (hc1 : w0.cell? ⟨b1, 0, none⟩ = some (.int .i64 M)) (hc2 : w0.cell? ⟨b2, 0, none⟩ = some (.int .i64 v))
    (hl : len = t.enc.length) (hlc : len ≤ cap) (hcm : cap ≤ maxLen) (hat : At w0 bb off t.enc) (hvt : T.vldB t.enc = true) :
    SeqX Fence.wide n Try.prog 59 #[.pointer (some ⟨bo, 0, none⟩), .pointer (some ⟨bn, 0, none⟩)] encsH 2 lo hi (GH v t M rb) (SH v t M) (SpH v t M) w0 := by
  intro l J Jx W hW hW2s hJ hJx hY h0
  have hBs : w0.heap.size ≤ W.heap.size := hW.size
  have hdo := (hW.cell (p := ⟨bo, 0, none⟩) ho.1).trans hco
  have hdn := (hW.cell (p := ⟨bn, 0, none⟩) hbn.1).trans hcn
  have hd1 := (hW.cell (p := ⟨b1, 0, none⟩) h1.1).trans hc1
  have hd2 := (hW.cell (p := ⟨b2, 0, none⟩) h2.1).trans hc2
  have hatW : At W bb off t.enc := hat.below hW (hat.lt (T.enc_ne t))
  have hboW : bo < W.heap.size := Nat.lt_of_lt_of_le ho.1 hBs
  have hbnW : bn < W.heap.size := Nat.lt_of_lt_of_le hbn.1 hBs
  have hdo1 : (W.alloc (.cells #[.func (.yield l) #[] #[]] 61)).cell? ⟨bo, 0, none⟩ = some (.slice (some ⟨bb, off, none⟩) len cap) := (World.cell?_alloc_past _ _ _ hboW).trans hdo
  have hdn2 : ((W.alloc (.cells #[.func (.yield l) #[] #[]] 61)).alloc (.cells #[.slice (some ⟨bb, off, none⟩) len cap] 22)).cell? ⟨bn, 0, none⟩ = some (.func (.func 61) #[] #[.pointer (some ⟨b1, 0, none⟩), .pointer (some ⟨b2, 0, none⟩)]) := (World.cell?_alloc_past _ _ _ (by simp; omega)).trans ((World.cell?_alloc_past _ _ _ hbnW).trans hdn)
  have HL := Lib.hid hl
  have HVT := Lib.hid hvt
  have HATW := Lib.hid hatW
  have HJ := Lib.hid hJ
  have HJx := Lib.hid hJx
  have HY := Lib.hid hY
  have HO1 := Lib.hid h1
  have HO2 := Lib.hid h2
  have H0 := Lib.hid h0
  clear hl hvt hat hatW hJ hJx hY h0 hco hcn hc1 hc2 hW
  refine callsIn_of_wp_marks Try.func59 rfl trivial ?_ rfl
  simp only [Try.ntmps59, List.size_toArray, List.length_cons, List.length_nil, Nat.reduceAdd, Nat.reduceSub, Array.replicate_succ, Array.replicate_zero, List.push_toArray, List.append_toArray, List.nil_append, List.cons_append]
  gi_wp2
  obtain ⟨W2, hW2⟩ : ∃ W2, W2 = ((W.alloc (.cells #[.func (.yield l) #[] #[]] 61)).alloc (.cells #[.slice (some ⟨bb, off, none⟩) len cap] 22)) := ⟨_, rfl⟩
  rw [← hW2]
  have hs2 : W2.heap.size = W.heap.size + 2 := by rw [hW2]; simp
  have hbx1 : Boxed W2 W.heap.size 61 (.func (.yield l) #[] #[]) := by rw [hW2]; exact (Boxed.new W _ _).alloc _
  have hbx2 : Boxed W2 (W.heap.size + 1) 22 (.slice (some ⟨bb, off, none⟩) len cap) := by
    have h := Boxed.new (W.alloc (.cells #[.func (.yield l) #[] #[]] 61)) 22 (.slice (some ⟨bb, off, none⟩) len cap)
    rw [World.size_alloc] at h
    rw [hW2]; exact h
  have hbW : Below W.heap.size W W2 := by rw [hW2]; exact ((Below.refl _ _).alloc (Nat.le_refl _) _).alloc (by simp) _
  have hd1' := (hbW.cell (p := ⟨b1, 0, none⟩) (Nat.lt_of_lt_of_le HO1.out.1 hBs)).trans hd1
  have hd2' := (hbW.cell (p := ⟨b2, 0, none⟩) (Nat.lt_of_lt_of_le HO2.out.1 hBs)).trans hd2
  have hJ2 : J 0 W2 := by
    rw [hW2]
    refine HJ.out 0 _ _ none (HJ.out 0 _ _ none H0.out (World.grownBy_alloc W _ none) (fun r e => by cases e)) (World.grownBy_alloc _ _ none) (fun r e => by cases e)
  have hst := repeated1_stops (n - 1) v M lo hi W.heap.size b1 b2 W2 hM (by omega) ⟨Nat.lt_of_lt_of_le HO1.out.1 hBs, HO1.out.2⟩ ⟨Nat.lt_of_lt_of_le HO2.out.1 hBs, HO2.out.2⟩ hd1' hd2'
  have hcap : t.enc.length ≤ cap := by rw [← HL.out]; exact hlc
  have hbx3 : Boxed W2 (W.heap.size + 1) 22 (.slice (some ⟨bb, off, none⟩) t.enc.length cap) := by rw [← HL.out]; exact hbx2
  have hvu : T.VU v t 0 := fun j hj => by
    obtain rfl : j = 0 := by omega
    exact HVT.out
  have hnz : T.NZ v t 0 := fun j hj => by omega
  have h00 : InI v t lo hi W.heap.size l J W2 [] W2 := ⟨hJ2, hvu, hnz, hbx1, KL.refl _ _ _ _, bb, off, cap, hbx3, hcap, hcm, HATW.out.below hbW (HATW.out.lt (T.enc_ne t)), hbb⟩
  clear hW2
  refine wpIn_rangeFunc_ownH rfl (by omega) (gf := 61) (lb := #[.pointer (some ⟨b1, 0, none⟩), .pointer (some ⟨b2, 0, none⟩)]) rfl trivial (enters_of Try.func61 (by kernel_rfl) rfl)
    hst KL.trans (KL.put (by omega)) (Below.refl _ _) (fun _ => rfl) (InI v t lo hi W.heap.size l J W2) (InX v t M J Jx) ?hI ?hIx h00
    (fun _ a' _ => a' = { tmps := #[.func (.yield l) #[] #[], .pointer (some ⟨bo, 0, none⟩), .pointer (some ⟨bn, 0, none⟩), .pointer (some ⟨W.heap.size, 0, none⟩), .pointer (some ⟨W.heap.size + 1, 0, none⟩), .int .i64 v, undef, undef, .slice (some ⟨bb, off, none⟩) len cap, .func (.func 61) #[] #[.pointer (some ⟨b1, 0, none⟩), .pointer (some ⟨b2, 0, none⟩)], .int .i64 v, undef, undef, undef, undef, undef, undef, undef, undef, undef, undef, undef, undef, undef, undef, undef, undef, undef, undef], defers := [] })
    (fun _ _ => ownFrom_pure _ _) ?assign ?body ?done ?stop
  case hI =>
    rintro s A C row ⟨hJa, hvu, hnz, hbxa, hkl, bb', off', c', hbxa2, hle, hm, hata, hout⟩ hg hr
    refine ⟨HJ.out _ A C row hJa hg (fun r e => by obtain ⟨k1, o, ho, hc⟩ := hr r e; exact ⟨by omega, .inr ⟨o, ho, hc⟩⟩), hvu, hnz, hbxa.kept hg (fun e => by have := (hr _ e.symm).1; omega), ?_, bb', off', c', hbxa2.kept hg (fun e => by have := (hr _ e.symm).1; omega), hle, hm, fun j hj => cell_kept (hata j hj) hg (fun r e => (hr r e).2), hout⟩
    exact ⟨Nat.le_trans hkl.1 hg.size, fun b k1 k2 k3 => (hg.block b (Nat.lt_of_lt_of_le k2 hkl.1) (fun e => by have := (hr _ e.symm).1; omega)).trans (hkl.2 b k1 k2 k3)⟩
  case hIx =>
    rintro c s A C row ⟨hc, h⟩ hg hr
    have hup : ∀ r, row = some r → W.heap.size ≤ r ∧ (r < W.heap.size + 2 ∨ ∃ o : Obj, A.heap[r]? = some o ∧ o.isCells = false) := fun r e => by obtain ⟨k1, o, ho, hc⟩ := hr r e; exact ⟨by omega, .inr ⟨o, ho, hc⟩⟩
    rcases h with ⟨i, h3, h4⟩ | ⟨i, h3, h4⟩
    · exact ⟨hc, .inl ⟨i, h3, HJ.out _ A C row h4 hg hup⟩⟩
    · exact ⟨hc, .inr ⟨i, h3, HJx.out _ A C row h4 hg hup⟩⟩
  case assign =>
    intro l' pre x W' K hi' hK
    gi_wp2
    exact hK _ W' (KeepsFrom.refl _ _) (KL.refl _ _ _ _) hi' rfl
  case body =>
    rintro l' pre x a' Wr hl' ⟨r, hr⟩ ⟨hJr, hvu, hnz, hbxr1, hkl, bb', off', c', hbxr2, hle', hm', hat', hout'⟩ rfl hlt
    obtain ⟨i, hi⟩ : ∃ i, i = pre.length := ⟨_, rfl⟩
    rw [← hi] at hJr hvu hnz hbxr2 hle' hat' hlt
    have hvi := hvu i (Nat.le_refl _)
    obtain ⟨ti, hti⟩ : ∃ ti, ti = T.it v t i := ⟨_, rfl⟩
    rw [← hti] at hbxr2 hle' hat' hvi
    have hn60 : ti.enc.length ≤ 60 := (T.vldB_true.1 hvi).1
    have hnf := T.nf_enc hvi
    have z1 := hbxr1.cell
    have z2 := hbxr2.cell
    have f2 := hbxr2.frozen
    have hpos : 0 < ti.enc.length := by rw [T.enc_len]; omega
    have ki := Lib.hid (isZero_any bb' off' ti.enc.length c' (ti.cnt : Int) Wr hpos hat'.head)
    have HNX := Lib.hid (show T.it v t (i + 1) = ti.step v by rw [hti]; rfl)
    have HI := Lib.hid hi
    have HTI := Lib.hid hti
    have HVU := Lib.hid hvu
    have HNZ := Lib.hid hnz
    have HVI := Lib.hid hvi
    have HKL := Lib.hid hkl
    have HB1 := Lib.hid hbxr1
    have HB2 := Lib.hid hbxr2
    have HAT := Lib.hid hat'
    have HJR := Lib.hid hJr
    have HNF := Lib.hid hnf
    have hWr2 : W2.heap.size ≤ Wr.heap.size := hkl.1
    clear hi hti hvu hnz hvi hkl hbxr1 hbxr2 hat' hJr hnf hr
    by_cases htz : ti = .z
    · have hz : ((ti.cnt : Int) == 0) = true := by rw [htz]; rfl
      have HTZ := Lib.hid htz
      clear htz
      gi_wp2
      refine ⟨trivial, fun h => (by cases h), (CallsIn.inRound l' (callsIn_wide.2 ki.out)).mono ?_⟩
      rintro ee wx ⟨rfl, rfl⟩
      gi_wp2
      exact ⟨KeepsFrom.refl _ _, rfl, .inl ⟨i, ⟨Nat.le_of_lt hlt, HNZ.out, .inr (.inl (by rw [← HTI.out]; exact HTZ.out))⟩, HJR.out⟩⟩
    · have hz : ((ti.cnt : Int) == 0) = false := by
        cases ti with
        | z => exact absurd rfl htz
        | c q f u => simp [T.cnt]; omega
      have HTZ := Lib.hid htz
      have kd := Lib.hid (stepDown_any v hv0 hv1 bb' off' ti.enc.length c' ti Wr rfl hn60 hle' hm' HAT.out HNF.out)
      obtain ⟨nr, hnr⟩ : ∃ nr, nr = T.fit (ti.step v) := ⟨_, rfl⟩
      obtain ⟨no, hno⟩ : ∃ no, no = T.vldB (ti.step v).enc := ⟨_, rfl⟩
      unfold OrdOkPost at kd
      rw [← hnr, ← hno] at kd
      have Hnr := Lib.hid hnr
      have Hno := Lib.hid hno
      clear htz hnr hno
      gi_wp2
      refine ⟨trivial, fun h => (by cases h), (CallsIn.inRound l' (callsIn_wide.2 ki.out)).mono ?_⟩
      rintro ee wx ⟨rfl, rfl⟩
      gi_wp2
      refine ⟨trivial, fun h => (by cases h), (CallsIn.inRound l' (callsIn_wide.2 kd.out)).mono ?_⟩
      rintro ee w1 ⟨a2, c2, rfl, ho2, hb2⟩
      have hlB : W.heap.size < Wr.heap.size := by omega
      have hlB1 : W.heap.size + 1 < Wr.heap.size := by omega
      have y1 := (hb2.cell (p := ⟨W.heap.size, 0, none⟩) hlB).trans z1
      have hJ1 : J i w1 := HJ.out i Wr w1 none HJR.out (grown_of_below hb2 none) (fun r e => by cases e)
      have hG1 : GH v t M rb i (a2, nr.length, c2, no) w1 := ⟨hlt, HVU.out, by rw [← HTI.out]; exact HTZ.out, by rw [HNX.out, ← Hnr.out], by rw [HNX.out]; exact Hno.out, by
        rw [HNX.out, ← Hnr.out]
        exact Joins.ownsRow_le (base' := rb) ho2 (by omega)⟩
      obtain ⟨fn, tmps, assign, body, hy, hR⟩ := YieldAt.wide (m := n - 1 - 1 - 1) (HY.out i (a2, nr.length, c2, no) w1 hJ1 hG1)
      dsimp only [encsH] at hy
      have Ho2 := Lib.hid ho2
      have Hb2 := Lib.hid hb2
      have HG1 := Lib.hid hG1
      clear ho2 hb2 hJ1 hG1
      gi_wp2
      refine ⟨fun h => (by cases h), hR.mono ?_⟩
      have hs1 := Hb2.out.size
      rintro e W' (⟨rfl, hJ', hk⟩ | ⟨rfl, hJx', hsz, hk⟩)
      · have hs' := hk.size
        have hkf : KeepsFrom (W.heap.size + 2) Wr W' := ⟨by omega, fun b o k1 k2 _ => by
          have k3 := (Array.getElem?_eq_some_iff.1 k2).1
          exact (hk.block b (by omega) (by omega)).trans ((Hb2.out.block b k3).trans k2)⟩
        have hkl' : KL lo hi W.heap.size Wr W' := ⟨by omega, fun b k1 k2 k3 => (hk.block b (by omega) k3).trans (Hb2.out.block b k2)⟩
        have hJ'' : J (i + 1) W' := hJ'
        have hbX1 : Boxed W' W.heap.size 61 (.func (.yield l) #[] #[]) := (hk.block W.heap.size (by omega) (by omega)).trans ((Hb2.out.block W.heap.size hlB).trans HB1.out)
        have hbX2 : Boxed W' (W.heap.size + 1) 22 (.slice (some ⟨bb', off', none⟩) ti.enc.length c') := (hk.block (W.heap.size + 1) (by omega) (by omega)).trans ((Hb2.out.block (W.heap.size + 1) hlB1).trans HB2.out)
        have Hkf := Lib.hid hkf
        have Hkl := Lib.hid hkl'
        have HJ'' := Lib.hid hJ''
        have HbX1 := Lib.hid hbX1
        have HbX2 := Lib.hid hbX2
        have Hk := Lib.hid hk
        clear hkf hkl' hJ'' hJ' hbX1 hk
        cases hno2 : no with
        | false =>
          have Hno2 := Lib.hid hno2
          clear hno2 hbX2
          gi_wp2
          exact ⟨by rw [hs2]; exact Hkf.out, rfl, .inl ⟨i + 1, ⟨by omega, HNZ.out.snoc (by rw [← HTI.out]; exact HTZ.out), .inr (.inr (by rw [HNX.out, ← Hno.out, Hno2.out]))⟩, HJ''.out⟩⟩
        | true =>
          have Hno2 := Lib.hid hno2
          have q2 := hbX2.cell
          have q3 := hbX2.frozen
          clear hno2 hbX2
          gi_wp2
          have hvn : T.vldB (ti.step v).enc = true := by rw [← Hno.out, Hno2.out]
          have hfe : nr = (ti.step v).enc := by rw [Hnr.out, T.fit, if_pos hvn]
          have ho2 := Ho2.out
          rw [hfe] at ho2
          obtain ⟨g2, rfl, hg2, hatn, hcn, hcmn⟩ := own_rowT ho2
          have hg2l : g2 < w1.heap.size := hatn.lt (T.enc_ne _)
          have hg2n : g2 ≠ W.heap.size + 1 := by omega
          have hat2 : At W' g2 0 (ti.step v).enc := fun j hj => (World.cell?_of_block (Hk.out.block g2 hg2l (by omega))).trans (hatn j hj)
          refine ⟨⟨Nat.le_trans Hkf.out.size (grownBy_setCell' _ _ _).size, fun b o k1 k2 k3 => ((grownBy_setCell' _ _ _).block b (by have := (Array.getElem?_eq_some_iff.1 k2).1; omega) (by intro e; cases e; omega)).trans (Hkf.out.same b o (by omega) k2 k3)⟩,
            Hkl.out.trans ⟨(grownBy_setCell' _ _ _).size, fun b k1 k2 _ => (grownBy_setCell' _ _ _).block b k2 (by intro e; cases e; omega)⟩, ?_⟩
          have hlen : (pre ++ [x]).length = i + 1 := by rw [HI.out]; simp
          unfold InI
          rw [hlen]
          refine ⟨HJ.out (i + 1) W' _ (some (W.heap.size + 1)) HJ''.out (grownBy_setCell' _ _ _) (fun r e => by cases e; exact ⟨by omega, .inl (by omega)⟩), HVU.out.snoc (by rw [HNX.out]; exact hvn), HNZ.out.snoc (by rw [← HTI.out]; exact HTZ.out),
            HbX1.out.other (by omega) _, (HKL.out.trans Hkl.out).trans ⟨(grownBy_setCell' _ _ _).size, fun b k1 k2 _ => (grownBy_setCell' _ _ _).block b k2 (by intro e; cases e; omega)⟩, g2, 0, c2, ?_, ?_, hcmn, ?_, by omega⟩
          · rw [HNX.out, ← hfe]; exact HbX2.out.set _
          · rw [HNX.out]; exact hcn
          · rw [HNX.out]
            intro j hj
            exact (World.cell?_of_block ((grownBy_setCell' _ _ _).block g2 (by omega) (by intro e; cases e; exact hg2n rfl))).trans (hat2 j hj)
      · gi_wp2
        exact ⟨⟨by omega, fun b o k1 k2 _ => by
          have k3 := (Array.getElem?_eq_some_iff.1 k2).1
          exact (hk b (by omega) (by omega)).trans ((Hb2.out.block b k3).trans k2)⟩, rfl, .inr ⟨i + 1, ⟨by omega, by omega, HVU.out, HNZ.out.snoc (by rw [← HTI.out]; exact HTZ.out)⟩, hJx'⟩⟩
  case done =>
    rintro D xs Wd hD hlen ⟨hJd, hvu, hnz, _, _, _⟩ hK
    gi_wp2
    refine ⟨by simp, .inl ⟨_, _, rfl, run_takeDeferred hK, ?_⟩⟩
    refine ⟨_, results_none rfl _ _ _, ⟨_, rfl⟩, .inl ⟨xs.length, ⟨Nat.le_of_eq hlen, hnz, .inl hlen⟩, ?_⟩⟩
    exact HJ.out _ Wd _ (some D) hJd (grownBy_putObj' Wd D _) (fun r e => by cases e; exact ⟨by omega, .inr ⟨_, hK, rfl⟩⟩)
  case stop =>
    rintro D c pre Wd hD _ ⟨rfl, h⟩ hK
    gi_wp2
    refine ⟨by simp, .inl ⟨_, _, rfl, run_takeDeferred hK, ?_⟩⟩
    have hup : ∀ r, some D = some r → W.heap.size ≤ r ∧ (r < W.heap.size + 2 ∨ ∃ o : Obj, Wd.heap[r]? = some o ∧ o.isCells = false) := fun r e => by cases e; exact ⟨by omega, .inr ⟨_, hK, rfl⟩⟩
    refine ⟨_, results_none rfl _ _ _, ⟨_, rfl⟩, ?_⟩
    rcases h with ⟨i, h3, h4⟩ | ⟨i, h3, h4⟩
    · exact .inl ⟨i, h3, HJ.out _ Wd _ (some D) h4 (grownBy_putObj' Wd D _) hup⟩
    · exact .inr ⟨i, h3, HJx.out _ Wd _ (some D) h4 (grownBy_putObj' Wd D _) hup⟩
end Go.Proofs.Ytdcaefgbpnjjaaa

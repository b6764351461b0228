/- The iterator 'stepsFrom' over a list of numbers. -/
import Derived.Test.YtdcaefgbpnjjaaaFallA
import Derived.Test.YtdcaefgbpnjjaaaFallM
import Derived.Test.YtdcaefgbpnjjaaaDownB
namespace Go.Proofs.Ytdcaefgbpnjjaaa
open Go.RowKit Go.Shelf

attribute [local go_sem] Oper.semAt_some

theorem T.RunL.vld {t u : T} {s : List Int} {l : List T} (ht : T.vldB t.enc = true) (h : T.RunL t s u l) : T.vldB u.enc = true := by
  cases h with
  | nil => exact ht
  | snoc _ _ h => exact h

/-- What the iterator hands over, and the number of its step, and how large the heap is. -/
abbrev HandedF := Handed × Int × Nat
def encsF (x : HandedF) : Array Value := encsH x.1
def GF (t : T) (M rb : Nat) (s : List Int × Nat) (x : HandedF) (W : World) : Prop :=
  s.1.length < M ∧ ∃ u l, T.RunL t s.1 u l ∧ u ≠ .z ∧ x.1.2.1 = (T.fit (u.step x.2.1)).length ∧ x.1.2.2.2 = T.vldB (u.step x.2.1).enc ∧ W.ownsRow rb 3 1 (.slice x.1.1 x.1.2.1 x.1.2.2.1) x.1.2.1 (ints (T.fit (u.step x.2.1))) ∧
    ∀ k, Value.ownBlock (.slice x.1.1 x.1.2.1 x.1.2.2.1) = some k → s.2 ≤ k ∧ k < x.2.2
def SF0 (t : T) (s : List Int) : Prop := (∃ l, T.RunL t s .z l) ∨ (∃ s' v u l, s = s' ++ [v] ∧ T.RunL t s' u l ∧ u ≠ .z ∧ T.vldB (u.step v).enc = false)
def SpF0 (t : T) (s : List Int) : Prop := ∃ s' v u l, s = s' ++ [v] ∧ T.RunL t s' u l ∧ u ≠ .z
def SF (t : T) (ns s : List Int) : Prop := s <+: ns ∧ (SF0 t s ∨ (s = ns ∧ ∃ u l, T.RunL t s u l))
def SpF (t : T) (ns s : List Int) : Prop := s <+: ns ∧ SpF0 t s
def nxF (s : List Int × Nat) (x : HandedF) : List Int × Nat := (s.1 ++ [x.2.1], x.2.2)

theorem nums_snoc (p : List Num) (x : Num) : nums (p ++ [x]) = nums p ++ [x.1] := by simp [nums]
theorem nums_prefix {p q : List Num} (h : p <+: q) : nums p <+: nums q := by
  obtain ⟨r, rfl⟩ := h
  exact ⟨nums r, by simp [nums]⟩

/-- Between two rounds of the iterator's own loop. -/
def InF (t : T) (lo hi B l : Nat) (J : List Int × Nat → World → Prop) (W2 : World) (pre : List Num) (W : World) : Prop :=
  (∃ m, m ≤ W.heap.size ∧ J (nums pre, m) W) ∧ (∃ u ls, T.RunL t (nums pre) u ls ∧ 
    ∃ bb off c, Boxed W (B + 1) 22 (.slice (some ⟨bb, off, none⟩) u.enc.length c) ∧ u.enc.length ≤ c ∧ c ≤ maxLen ∧ At W bb off u.enc ∧ (bb < lo ∨ hi ≤ bb) ∧ (B ≤ bb → ∃ cur, W.heap[bb]? = some (.cells cur 3 (0, 0)))) ∧
    Boxed W B 61 (.func (.yield l) #[] #[]) ∧ KL lo hi B W2 W
def InXF (t : T) (J Jx : List Int × Nat → World → Prop) (c : Code) (pre : List Num) (W : World) : Prop :=
  c = .ret ∧ ((∃ s, s.1 <+: nums pre ∧ SF0 t s.1 ∧ J s W) ∨ (∃ s, s.1 <+: nums pre ∧ SpF0 t s.1 ∧ Jx s W))

set_option maxRecDepth 100000 in
set_option maxHeartbeats 4000000 in
theorem stepsFrom1_seqL (n : Nat) (ns : List Num) (lo hi q rb bo bn bs bb off len cap nlen ncap : Nat) (ao : Option Addr) (t : T) (w0 : World) (hn : 4 ≤ n) (hM : nlen ≤ 3000) (hhi : hi ≤ w0.heap.size) (hrb : rb ≤ w0.heap.size + 4) (hq : w0.heap.size + 4 ≤ q)
    (ho : bo < w0.heap.size ∧ (bo < lo ∨ hi ≤ bo)) (hbn : bn < w0.heap.size ∧ (bn < lo ∨ hi ≤ bn)) (h1 : bs < w0.heap.size ∧ (bs < lo ∨ hi ≤ bs)) (hbb : bb < lo ∨ hi ≤ bb)
    (hco : w0.cell? ⟨bo, 0, none⟩ = some (.slice (some ⟨bb, off, none⟩) len cap)) (hcn : w0.cell? ⟨bn, 0, none⟩ = some (.func (.func 60) #[] #[.pointer (some ⟨bs, 0, none⟩)]))
    (hc1 : w0.cell? ⟨bs, 0, none⟩ = some (.slice ao nlen ncap)) (hsl : Sl w0 ao nlen ncap (nums ns)) (hnb : ∀ b off, ao = some ⟨b, off, none⟩ → 0 < nlen → b < w0.heap.size ∧ (b < lo ∨ hi ≤ b))
    (hl : len = t.enc.length) (hlc : len ≤ cap) (hcm : cap ≤ maxLen) (hat : At w0 bb off t.enc) (hvt : T.vldB t.enc = true) :
    SeqL Fence.wide n Try.prog 59 #[.pointer (some ⟨bo, 0, none⟩), .pointer (some ⟨bn, 0, none⟩)] encsF ([], 0) nxF 2 lo hi q 22 (GF t nlen rb) (fun s => SF t (nums ns) s.1) (fun s => SpF t (nums ns) s.1) w0 := by
  intro l J Jx W hW hW2s hJ hJx hY h0
  have hBs : w0.heap.size ≤ W.heap.size := hW.size
  have hW2a : W.heap.size ≤ w0.heap.size + 2 := Nat.le_of_eq hW2s
  have hW2b : w0.heap.size + 2 ≤ W.heap.size := Nat.le_of_eq hW2s.symm
  clear hW2s
  have hdo := (hW.cell (p := ⟨bo, 0, none⟩) ho.1).trans hco
  have hdn := (hW.cell (p := ⟨bn, 0, none⟩) hbn.1).trans hcn
  have hd1 := (hW.cell (p := ⟨bs, 0, none⟩) h1.1).trans hc1
  have hslW := hsl.below hW
  have hatW : At W bb off t.enc := hat.below hW (hat.lt (T.enc_ne t))
  have hbbW : bb < w0.heap.size := hat.lt (T.enc_ne t)
  have hboW : bo < W.heap.size := Nat.lt_of_lt_of_le ho.1 hBs
  have hbnW : bn < W.heap.size := Nat.lt_of_lt_of_le hbn.1 hBs
  have hdo1 : (W.alloc (.cells #[.func (.yield l) #[] #[]] 61)).cell? ⟨bo, 0, none⟩ = some (.slice (some ⟨bb, off, none⟩) len cap) := (World.cell?_alloc_past _ _ _ hboW).trans hdo
  have hdn2 : ((W.alloc (.cells #[.func (.yield l) #[] #[]] 61)).alloc (.cells #[.slice (some ⟨bb, off, none⟩) len cap] 22)).cell? ⟨bn, 0, none⟩ = some (.func (.func 60) #[] #[.pointer (some ⟨bs, 0, none⟩)]) := (World.cell?_alloc_past _ _ _ (by simp; omega)).trans ((World.cell?_alloc_past _ _ _ hbnW).trans hdn)
  have HL := Lib.hid hl
  have HVT := Lib.hid hvt
  have HATW := Lib.hid hatW
  have HSL := Lib.hid hslW
  have HNB := Lib.hid hnb
  have HJ := Lib.hid hJ
  have HJx := Lib.hid hJx
  have HY := Lib.hid hY
  have HO1 := Lib.hid h1
  have H0 := Lib.hid h0
  clear hl hvt hat hatW hJ hJx hY h0 hco hcn hc1 hW hsl hslW hnb
  refine callsIn_of_wp_marks Try.func59 rfl trivial ?_ rfl
  simp only [Try.ntmps59, List.size_toArray, List.length_cons, List.length_nil, Nat.reduceAdd, Nat.reduceSub, Array.replicate_succ, Array.replicate_zero, List.push_toArray, List.append_toArray, List.nil_append, List.cons_append]
  gi_wp2
  obtain ⟨W2, hW2⟩ : ∃ W2, W2 = ((W.alloc (.cells #[.func (.yield l) #[] #[]] 61)).alloc (.cells #[.slice (some ⟨bb, off, none⟩) len cap] 22)) := ⟨_, rfl⟩
  rw [← hW2]
  have hs2 : W2.heap.size = W.heap.size + 2 := by rw [hW2]; simp
  have hbx1 : Boxed W2 W.heap.size 61 (.func (.yield l) #[] #[]) := by rw [hW2]; exact (Boxed.new W _ _).alloc _
  have hbx2 : Boxed W2 (W.heap.size + 1) 22 (.slice (some ⟨bb, off, none⟩) len cap) := by
    have h := Boxed.new (W.alloc (.cells #[.func (.yield l) #[] #[]] 61)) 22 (.slice (some ⟨bb, off, none⟩) len cap)
    rw [World.size_alloc] at h
    rw [hW2]; exact h
  have hbW : Below W.heap.size W W2 := by rw [hW2]; exact ((Below.refl _ _).alloc (Nat.le_refl _) _).alloc (by simp) _
  have hd1' := (hbW.cell (p := ⟨bs, 0, none⟩) (Nat.lt_of_lt_of_le HO1.out.1 hBs)).trans hd1
  have hJ2 : J ([], 0) W2 := by
    rw [hW2]
    refine HJ.out ([], 0) _ _ none (HJ.out ([], 0) _ _ none H0.out (World.grownBy_alloc W _ none) (fun r e => by cases e)) (World.grownBy_alloc _ _ none) (fun r e => by cases e)
  have hst := values1_stops (n - 1) ns nlen ncap lo hi W.heap.size bs ao W2 hM (by omega) ⟨Nat.lt_of_lt_of_le HO1.out.1 hBs, HO1.out.2⟩ hd1' (HSL.out.below hbW) (fun b off he h0 => ⟨Nat.lt_of_lt_of_le (HNB.out b off he h0).1 hBs, (HNB.out b off he h0).2⟩)
  have hcap : t.enc.length ≤ cap := by rw [← HL.out]; exact hlc
  have hbx3 : Boxed W2 (W.heap.size + 1) 22 (.slice (some ⟨bb, off, none⟩) t.enc.length cap) := by rw [← HL.out]; exact hbx2
  have h00 : InF t lo hi W.heap.size l J W2 [] W2 := ⟨⟨0, Nat.zero_le _, hJ2⟩, ⟨t, [], .nil, bb, off, cap, hbx3, hcap, hcm, HATW.out.below hbW (HATW.out.lt (T.enc_ne t)), hbb, fun h => by omega⟩, hbx1, KL.refl _ _ _ _⟩
  clear hW2
  refine wpIn_rangeFunc_ownH rfl (by omega) (gf := 60) (lb := #[.pointer (some ⟨bs, 0, none⟩)]) rfl trivial (enters_of Try.func60 (by kernel_rfl) rfl)
    hst KL.trans (KL.put (by omega)) (Below.refl _ _) (fun _ => rfl) (InF t lo hi W.heap.size l J W2) (InXF t J Jx) ?hI ?hIx h00
    (fun x a' _ => a' = { tmps := #[.func (.yield l) #[] #[], .pointer (some ⟨bo, 0, none⟩), .pointer (some ⟨bn, 0, none⟩), .pointer (some ⟨W.heap.size, 0, none⟩), .pointer (some ⟨W.heap.size + 1, 0, none⟩), .int .i64 x.1, undef, undef, .slice (some ⟨bb, off, none⟩) len cap, .func (.func 60) #[] #[.pointer (some ⟨bs, 0, none⟩)], .int .i64 x.1, undef, undef, undef, undef, undef, undef, undef, undef, undef, undef, undef, undef, undef, undef, undef, undef, undef, undef], defers := [] })
    (fun _ _ => ownFrom_pure _ _) ?assign ?body ?done ?stop
  case hI =>
    rintro s A C row ⟨⟨mg, hmg, hJa⟩, ⟨u, ls, hru, bb', off', c', hbxa2, hle, hm, hata, hout, hty⟩, hbxa, hkl⟩ hg hr
    refine ⟨⟨mg, Nat.le_trans hmg hg.size, HJ.out _ A C row hJa hg (fun r e => by obtain ⟨k1, o, ho, hc⟩ := hr r e; exact ⟨by omega, .inr ⟨o, ho, hc⟩⟩)⟩, ⟨u, ls, hru, bb', off', c', hbxa2.kept hg (fun e => by have := (hr _ e.symm).1; omega), hle, hm, fun j hj => cell_kept (hata j hj) hg (fun r e => (hr r e).2), hout, fun k => ?_⟩, hbxa.kept hg (fun e => by have := (hr _ e.symm).1; omega), ?_⟩
    · obtain ⟨cur, hcur⟩ := hty k
      refine ⟨cur, (hg.block _ (Array.getElem?_eq_some_iff.1 hcur).1 (fun e => ?_)).trans hcur⟩
      obtain ⟨_, o, ho, hc⟩ := hr _ e.symm
      rw [hcur] at ho
      cases ho
      cases hc
    · exact ⟨Nat.le_trans hkl.1 hg.size, fun b k1 k2 k3 => (hg.block b (Nat.lt_of_lt_of_le k2 hkl.1) (fun e => by have := (hr _ e.symm).1; omega)).trans (hkl.2 b k1 k2 k3)⟩
  case hIx =>
    rintro c s A C row ⟨hc, h⟩ hg hr
    have hup : ∀ r, row = some r → W.heap.size ≤ r ∧ (r < W.heap.size + 2 ∨ ∃ o : Obj, A.heap[r]? = some o ∧ o.isCells = false) := fun r e => by obtain ⟨k1, o, ho, hc⟩ := hr r e; exact ⟨by omega, .inr ⟨o, ho, hc⟩⟩
    rcases h with ⟨i, hp, h3, h4⟩ | ⟨i, hp, h3, h4⟩
    · exact ⟨hc, .inl ⟨i, hp, h3, HJ.out _ A C row h4 hg hup⟩⟩
    · exact ⟨hc, .inr ⟨i, hp, h3, HJx.out _ A C row h4 hg hup⟩⟩
  case assign =>
    intro l' pre x W' K hi' hK
    gi_wp2
    exact hK _ W' (KeepsFrom.refl _ _) (KL.refl _ _ _ _) hi' rfl
  case body =>
    rintro l' pre x a' Wr hl' ⟨r, hr⟩ ⟨⟨mg, hmg, hJr⟩, ⟨ti, ls, hru, bb', off', c', hbxr2, hle', hm', hat', hout', hty'⟩, hbxr1, hkl⟩ rfl hlt
    have hvi := hru.vld HVT.out
    have hn60 : ti.enc.length ≤ 60 := (T.vldB_true.1 hvi).1
    have hnf := T.nf_enc hvi
    have z1 := hbxr1.cell
    have z2 := hbxr2.cell
    have f2 := hbxr2.frozen
    have hpos : 0 < ti.enc.length := by rw [T.enc_len]; omega
    have ki := Lib.hid (isZero_any bb' off' ti.enc.length c' (ti.cnt : Int) Wr hpos hat'.head)
    have HRU := Lib.hid hru
    have HVI := Lib.hid hvi
    have HKL := Lib.hid hkl
    have HB1 := Lib.hid hbxr1
    have HB2 := Lib.hid hbxr2
    have HAT := Lib.hid hat'
    have HJR := Lib.hid hJr
    have HNF := Lib.hid hnf
    have HLT := Lib.hid hlt
    have hWr2 : W2.heap.size ≤ Wr.heap.size := hkl.1
    obtain ⟨v, hv0, hv1, hxv⟩ : ∃ v : Int, 0 ≤ v ∧ v ≤ 99 ∧ x.1 = v := ⟨x.1, x.2.1, x.2.2, rfl⟩
    have HSN := Lib.hid (show nums (pre ++ [x]) = nums pre ++ [v] by rw [nums_snoc, hxv])
    rw [hxv]
    clear hxv hru hvi hkl hbxr1 hbxr2 hat' hJr hnf hr hlt hty'
    by_cases htz : ti = .z
    · have hz : ((ti.cnt : Int) == 0) = true := by rw [htz]; rfl
      have HTZ := Lib.hid htz
      clear htz
      gi_wp2
      refine ⟨trivial, fun h => (by cases h), (CallsIn.inRound l' (callsIn_wide.2 ki.out)).mono ?_⟩
      rintro ee wx ⟨rfl, rfl⟩
      gi_wp2
      exact ⟨KeepsFrom.refl _ _, rfl, .inl ⟨(nums pre, mg), by rw [HSN.out]; exact List.prefix_append _ _, .inl ⟨ls, by have h := HRU.out; rw [HTZ.out] at h; exact h⟩, HJR.out⟩⟩
    · have hz : ((ti.cnt : Int) == 0) = false := by
        cases ti with
        | z => exact absurd rfl htz
        | c q f u => simp [T.cnt]; omega
      have HTZ := Lib.hid htz
      have kd := Lib.hid (stepDown_any v hv0 hv1 bb' off' ti.enc.length c' ti Wr rfl hn60 hle' hm' HAT.out HNF.out)
      obtain ⟨nr, hnr⟩ : ∃ nr, nr = T.fit (ti.step v) := ⟨_, rfl⟩
      obtain ⟨no, hno⟩ : ∃ no, no = T.vldB (ti.step v).enc := ⟨_, rfl⟩
      unfold OrdOkPost at kd
      rw [← hnr, ← hno] at kd
      have Hnr := Lib.hid hnr
      have Hno := Lib.hid hno
      clear htz hnr hno
      gi_wp2
      refine ⟨trivial, fun h => (by cases h), (CallsIn.inRound l' (callsIn_wide.2 ki.out)).mono ?_⟩
      rintro ee wx ⟨rfl, rfl⟩
      gi_wp2
      refine ⟨trivial, fun h => (by cases h), (CallsIn.inRound l' (callsIn_wide.2 kd.out)).mono ?_⟩
      rintro ee w1 ⟨a2, c2, rfl, ho2, hb2⟩
      have hlB : W.heap.size < Wr.heap.size := by omega
      have hlB1 : W.heap.size + 1 < Wr.heap.size := by omega
      have y1 := (hb2.cell (p := ⟨W.heap.size, 0, none⟩) hlB).trans z1
      have hJ1 : J (nums pre, mg) w1 := HJ.out (nums pre, mg) Wr w1 none HJR.out (grown_of_below hb2 none) (fun r e => by cases e)
      have hG1 : GF t nlen rb (nums pre, mg) ((a2, nr.length, c2, no), v, w1.heap.size) w1 := ⟨by show (nums pre).length < nlen; rw [nums, List.length_map]; exact HLT.out, ti, ls, HRU.out, HTZ.out, by rw [← Hnr.out], Hno.out, by
        rw [← Hnr.out]
        exact Joins.ownsRow_le (base' := rb) ho2 (by omega), fun k hk => by have h := ho2.lt k hk; exact ⟨by show mg ≤ k; omega, h.2⟩⟩
      obtain ⟨fn, tmps, assign, body, hy, hR⟩ := YieldAt.wide (m := n - 1 - 1 - 1) (HY.out (nums pre, mg) ((a2, nr.length, c2, no), v, w1.heap.size) w1 hJ1 hG1)
      dsimp only [encsF, encsH] at hy
      have Ho2 := Lib.hid ho2
      have Hb2 := Lib.hid hb2
      have HG1 := Lib.hid hG1
      clear ho2 hb2 hJ1 hG1
      gi_wp2
      refine ⟨fun h => (by cases h), hR.mono ?_⟩
      have hs1 := Hb2.out.size
      have hnfree : ∀ b : Nat, b < q → (b < lo ∨ hi ≤ b) → ¬ Free lo hi q 22 w1 b := fun b k1 k2 h => by rcases h with h | h <;> omega
      have hncell : ∀ (b : Nat) (o : Obj), hi ≤ b → w1.heap[b]? = some o → o.isCells = false → ¬ Free lo hi q 22 w1 b := fun b o k1 k2 k3 h => by
        rcases h with h | ⟨_, cs, fr, h⟩
        · omega
        · rw [k2] at h
          cases h
          cases k3
      rintro e W' (⟨rfl, hJ', hk⟩ | ⟨rfl, hJx', hsz, hk⟩)
      · have hs' := hk.size
        have hkf : KeepsFrom (W.heap.size + 2) Wr W' := ⟨by omega, fun b o k1 k2 k5 => by
          have k3 := (Array.getElem?_eq_some_iff.1 k2).1
          have k4 := (Hb2.out.block b k3).trans k2
          exact (hk.block b (by omega) (hncell b o (by omega) k4 k5)).trans k4⟩
        have hkl' : KL lo hi W.heap.size Wr W' := ⟨by omega, fun b k1 k2 k3 => (hk.block b (by omega) (hnfree b (by omega) k3)).trans (Hb2.out.block b k2)⟩
        have hJ'' : J (nums pre ++ [v], w1.heap.size) W' := hJ'
        have hbX1 : Boxed W' W.heap.size 61 (.func (.yield l) #[] #[]) := (hk.block W.heap.size (by omega) (hnfree _ (by omega) (by omega))).trans ((Hb2.out.block W.heap.size hlB).trans HB1.out)
        have hbX2 : Boxed W' (W.heap.size + 1) 22 (.slice (some ⟨bb', off', none⟩) ti.enc.length c') := (hk.block (W.heap.size + 1) (by omega) (hnfree _ (by omega) (by omega))).trans ((Hb2.out.block (W.heap.size + 1) hlB1).trans HB2.out)
        have Hkf := Lib.hid hkf
        have Hkl := Lib.hid hkl'
        have HJ'' := Lib.hid hJ''
        have HbX1 := Lib.hid hbX1
        have HbX2 := Lib.hid hbX2
        have Hk := Lib.hid hk
        clear hkf hkl' hJ'' hJ' hbX1 hk
        cases hno2 : no with
        | false =>
          have Hno2 := Lib.hid hno2
          clear hno2 hbX2
          gi_wp2
          exact ⟨by rw [hs2]; exact Hkf.out, rfl, .inl ⟨(nums pre ++ [v], w1.heap.size), by rw [HSN.out]; exact List.prefix_rfl, .inr ⟨nums pre, v, ti, ls, rfl, HRU.out, HTZ.out, by rw [← Hno.out, Hno2.out]⟩, HJ''.out⟩⟩
        | true =>
          have Hno2 := Lib.hid hno2
          have q2 := hbX2.cell
          have q3 := hbX2.frozen
          clear hno2 hbX2
          gi_wp2
          have hvn : T.vldB (ti.step v).enc = true := by rw [← Hno.out, Hno2.out]
          have hfe : nr = (ti.step v).enc := by rw [Hnr.out, T.fit, if_pos hvn]
          have ho2 := Ho2.out
          rw [hfe] at ho2
          obtain ⟨g2, rfl, hg2, hatn, hcn, hcmn⟩ := own_rowT ho2
          have hty2 : ∃ cur, w1.heap[g2]? = some (.cells cur 3 (0, 0)) := by
            obtain ⟨_, ⟨h, _⟩ | ⟨g, cap', cur, h, _, h2, _⟩⟩ := ho2
            · cases h
            · cases h
              exact ⟨cur, h2⟩
          obtain ⟨cur2, hcur2⟩ := hty2
          have hg2l : g2 < w1.heap.size := hatn.lt (T.enc_ne _)
          have hg2n : g2 ≠ W.heap.size + 1 := by omega
          have hg2f : ¬ Free lo hi q 22 w1 g2 := fun h => by
            rcases h with h | ⟨_, cs, fr, h⟩
            · omega
            · rw [hcur2] at h
              cases h
          have hb2' := Hk.out.block g2 hg2l hg2f
          have hat2 : At W' g2 0 (ti.step v).enc := fun j hj => (World.cell?_of_block hb2').trans (hatn j hj)
          refine ⟨⟨Nat.le_trans Hkf.out.size (grownBy_setCell' _ _ _).size, fun b o k1 k2 k3 => ((grownBy_setCell' _ _ _).block b (by have := (Array.getElem?_eq_some_iff.1 k2).1; omega) (by intro e; cases e; omega)).trans (Hkf.out.same b o (by omega) k2 k3)⟩,
            Hkl.out.trans ⟨(grownBy_setCell' _ _ _).size, fun b k1 k2 _ => (grownBy_setCell' _ _ _).block b k2 (by intro e; cases e; omega)⟩, ?_⟩
          unfold InF
          rw [HSN.out]
          refine ⟨⟨w1.heap.size, Nat.le_trans hs' (grownBy_setCell' _ _ _).size, HJ.out (nums pre ++ [v], w1.heap.size) W' _ (some (W.heap.size + 1)) HJ''.out (grownBy_setCell' _ _ _) (fun r e => by cases e; exact ⟨by omega, .inl (by omega)⟩)⟩, ⟨ti.step v, ls ++ [ti.step v], .snoc HRU.out HTZ.out hvn, g2, 0, c2, ?_, hcn, hcmn, ?_, by omega, fun _ => ⟨cur2, ?_⟩⟩,
            HbX1.out.other (by omega) _, (HKL.out.trans Hkl.out).trans ⟨(grownBy_setCell' _ _ _).size, fun b k1 k2 _ => (grownBy_setCell' _ _ _).block b k2 (by intro e; cases e; omega)⟩⟩
          · rw [← hfe]; exact HbX2.out.set _
          · intro j hj
            exact (World.cell?_of_block ((grownBy_setCell' _ _ _).block g2 (by omega) (by intro e; cases e; exact hg2n rfl))).trans (hat2 j hj)
          · exact ((grownBy_setCell' _ _ _).block g2 (by omega) (by intro e; cases e; exact hg2n rfl)).trans (hb2'.trans hcur2)
      · gi_wp2
        exact ⟨⟨by omega, fun b o k1 k2 k5 => by
          have k3 := (Array.getElem?_eq_some_iff.1 k2).1
          have k4 := (Hb2.out.block b k3).trans k2
          exact (hk b (by omega) (by omega) (hncell b o (by omega) k4 k5)).trans k4⟩, rfl, .inr ⟨(nums pre ++ [v], w1.heap.size), by rw [HSN.out]; exact List.prefix_rfl, ⟨nums pre, v, ti, ls, rfl, HRU.out, HTZ.out⟩, hJx'⟩⟩
  case done =>
    rintro D xs Wd hD hlen ⟨⟨mg, _, hJd⟩, ⟨u, ls, hru, _⟩, _, _⟩ hK
    gi_wp2
    refine ⟨by simp, .inl ⟨_, _, rfl, run_takeDeferred hK, ?_⟩⟩
    refine ⟨_, results_none rfl _ _ _, ⟨_, rfl⟩, .inl ⟨(nums xs, mg), ⟨by rw [hlen]; exact List.prefix_rfl, .inr ⟨by rw [hlen], u, ls, hru⟩⟩, ?_⟩⟩
    exact HJ.out _ Wd _ (some D) hJd (grownBy_putObj' Wd D _) (fun r e => by cases e; exact ⟨by omega, .inr ⟨_, hK, rfl⟩⟩)
  case stop =>
    rintro D c pre Wd hD hpre ⟨rfl, h⟩ hK
    gi_wp2
    refine ⟨by simp, .inl ⟨_, _, rfl, run_takeDeferred hK, ?_⟩⟩
    have hup : ∀ r, some D = some r → W.heap.size ≤ r ∧ (r < W.heap.size + 2 ∨ ∃ o : Obj, Wd.heap[r]? = some o ∧ o.isCells = false) := fun r e => by cases e; exact ⟨by omega, .inr ⟨_, hK, rfl⟩⟩
    refine ⟨_, results_none rfl _ _ _, ⟨_, rfl⟩, ?_⟩
    rcases h with ⟨i, hp, h3, h4⟩ | ⟨i, hp, h3, h4⟩
    · exact .inl ⟨i, ⟨hp.trans (nums_prefix hpre.2), .inl h3⟩, HJ.out _ Wd _ (some D) h4 (grownBy_putObj' Wd D _) hup⟩
    · exact .inr ⟨i, ⟨hp.trans (nums_prefix hpre.2), h3⟩, HJx.out _ Wd _ (some D) h4 (grownBy_putObj' Wd D _) hup⟩
end Go.Proofs.Ytdcaefgbpnjjaaa

/- The model's products. -/
import Derived.Test.YtaleaagnkfbhpabMul
import Derived.Test.YtaleaagnkfbhpabTwin
import Derived.Test.YtaleaagnkfbhpabAddT
import Derived.Deep.RegionHeld3
namespace Go.Proofs.Ytaleaagnkfbhpab
open Go.RowKit

/-- At a step of a region that draws its order: append to a row of the call's own; and where the new row lies. -/
theorem step_append_own_at {P : Program} {w : World} {ops : Array Oper} {o : Oper} {a : Act} {K : Act → World → Prop} {Q : Exit → Act → World → Prop} {E : Prop} (hgd : o.guard = none) (s x : Operand) (t : TypeId)
    (ho : o.op = .call { callee := .builtin .append, args := #[s, x], argTypes := #[t, t] })
    (base : Nat) (e : TypeId) (i : TypeInfo) (z : Value) (size bytes : Nat) (ht : P.underlying t = some (.slice e)) (hi : P.info? e = some i) (hz : i.zero = some z)
    (hsize : i.size = size) (hby : i.bytes = bytes) (hzs : z.cells.size = size) (hsz : 0 < size)
    (v : Value) (n : Nat) (xs : List Value) (hs : a.eval s = v) (hown : w.ownsRow base e size v n xs)
    (ad : Addr) (m c : Nat) (news : List Value) (hx : a.eval x = .slice (some ad) m c) (hl : news.length = m * size) (hnews : ∀ j u, news[j]? = some u → w.cell? (ad.add j) = some u) (h1 : ∀ u ∈ news, u.oneCell' = true)
    (h63 : n + m ≤ maxLen) (hbytes : (n + m) * bytes ≤ 140737488355328) (hbase : base ≤ w.heap.size)
    (h : ∀ v' w', w'.ownsRow base e size v' (n + m) (xs ++ news) → w.grownBy w' v.ownBlock → (v' = .slice none 0 0 ↔ v = .slice none 0 0 ∧ m = 0) → (v'.ownBlock = v.ownBlock ∨ v'.ownBlock = some w.heap.size) → K (a.put o.dst v') w') :
    if Region.wanted o (yielded ops a.tmps) = true then Oper.wp P o a w K Q else E := by
  have hw : Region.wanted o (yielded ops a.tmps) = true := by simp [Region.wanted, hgd]
  rw [if_pos hw]
  obtain ⟨v', w', hr, h2, h3, h4, h5⟩ := run_append_own_at (P := P) w base t o.type e i z size bytes ht hi hz hsize hby hzs hsz v n xs hown ad m c news hl hnews h1 h63 hbytes hbase
  unfold Oper.wp execOp
  simp only [ho, resolve, invoke, builtin, Sem.run_bind, Sem.run_pure, Result.andThen_ok, List.map_toArray, List.map_cons, List.map_nil, hs, hx, hr]
  exact h v' w' h2 h3 h4 h5

/-- What holds of the two rows ahead of a round. -/
def MulSR (w : World) (m : Int) (p a t : T) (gk : Nat) (v9 v10 v11 : Value) (wr : World) : Prop :=
  ∃ (i : Nat) (d u q : T) (es : List Value) (a9 a10 : Option Addr) (c9 c10 qn : Nat), v11 = .int .i64 i ∧ gk + i = t.cnt ∧ d.app u = t ∧ d.cnt = i ∧ T.mulT m p a t = q.app (T.mulT m p a u) ∧ q.cnt = qn ∧ (u = .z ∨ qn ≤ i) ∧ qn ≤ i + a.cnt ∧ v9 = .slice a9 qn c9 ∧ v10 = .slice a10 qn c10 ∧
    wr.ownsRow w.heap.size 3 1 v9 qn (ints q.times) ∧ wr.ownsRow w.heap.size 23 1 v10 qn es ∧ EF wr v9.ownBlock v10.ownBlock q es ∧ Below w.heap.size w wr

/-- Behind the numbers' append. -/
def MulSA (w : World) (q q' : T) (es : List Value) (qn : Nat) (v10 v9 : Value) (wx : World) : Prop :=
  ∃ a9 c9, v9 = .slice a9 q'.cnt c9 ∧ wx.ownsRow w.heap.size 3 1 v9 q'.cnt (ints q'.times) ∧ wx.ownsRow w.heap.size 23 1 v10 qn es ∧ EF wx v9.ownBlock v10.ownBlock q es ∧ Below w.heap.size w wx

/-- Behind the exponents' append. -/
def MulSB (w : World) (q' : T) (v9 v10 : Value) (wx : World) : Prop :=
  ∃ a10 c10 es, v10 = .slice a10 q'.cnt c10 ∧ wx.ownsRow w.heap.size 3 1 v9 q'.cnt (ints q'.times) ∧ wx.ownsRow w.heap.size 23 1 v10 q'.cnt es ∧ EF wx v9.ownBlock v10.ownBlock q' es ∧ Below w.heap.size w wx

/-- One append to the numbers: the exponents' row and the exponents stay. -/
theorem mul_numbers {W w' : World} {B n qn : Nat} {v9 v10 v' : Value} {q : T} {xs es : List Value} (h9 : W.ownsRow B 3 1 v9 n xs) (h10 : W.ownsRow B 23 1 v10 qn es) (hE : EF W v9.ownBlock v10.ownBlock q es)
    (hg : W.grownBy w' v9.ownBlock) (hat : v'.ownBlock = v9.ownBlock ∨ v'.ownBlock = some W.heap.size) : w'.ownsRow B 23 1 v10 qn es ∧ EF w' v'.ownBlock v10.ownBlock q es :=
  ⟨h10.kept hg (own_ne h10 h9 (by decide)), hE.go hg (fun _ _ => .inl rfl) (fun k e => by
    rcases hat with h | h
    · exact .inl h
    · right; rw [h] at e; cases e; exact Nat.le_refl _) (fun _ _ => .inl rfl)⟩

/-- One append to the exponents: the numbers' row and the exponents stay. -/
theorem mul_exps {W w' : World} {B n qn : Nat} {v9 v10 v' : Value} {q : T} {xs ys es : List Value} (h9 : W.ownsRow B 3 1 v9 n xs) (h10 : W.ownsRow B 23 1 v10 qn ys) (hE : EF W v9.ownBlock v10.ownBlock q es)
    (hg : W.grownBy w' v10.ownBlock) (hat : v'.ownBlock = v10.ownBlock ∨ v'.ownBlock = some W.heap.size) : w'.ownsRow B 3 1 v9 n xs ∧ EF w' v9.ownBlock v'.ownBlock q es :=
  ⟨h9.kept hg (own_ne h9 h10 (by decide)), hE.go hg (fun _ _ => .inr (.inl rfl)) (fun _ _ => .inl rfl) (fun k e => by
    rcases hat with h | h
    · exact .inl h
    · right; rw [h] at e; cases e; exact Nat.le_refl _)⟩

/-- Behind the sum of two exponents. -/
theorem mul_called {w2 wa wb : World} {qn q1 : Nat} {v9 v10 : Value} {q e : T} {xs es : List Value} {aN : Option Addr} {cN : Nat} (hoN : wb.ownsRow wa.drew.heap.size 3 1 (.slice aN e.enc.length cN) e.enc.length (ints e.enc)) (hbN : Below wa.drew.heap.size wa.drew wb)
    (h9 : wa.ownsRow w2.heap.size 3 1 v9 q1 xs) (h10 : wa.ownsRow w2.heap.size 23 1 v10 qn es) (hE : EF wa v9.ownBlock v10.ownBlock q es) (hb : Below w2.heap.size w2 wa) :
    ∃ (gN c' : Nat), At wb gN 0 e.enc ∧ (e.enc.length ≤ c' ∧ c' ≤ maxLen) ∧ wa.heap.size ≤ gN ∧ wb.ownsRow w2.heap.size 3 1 v9 q1 xs ∧ wb.ownsRow w2.heap.size 23 1 v10 qn es ∧ EF wb v9.ownBlock v10.ownBlock q es ∧ Below w2.heap.size w2 wb ∧
      w2.heap.size ≤ wb.heap.size ∧ wa.heap.size ≤ wb.heap.size ∧ (aN = some ⟨gN, 0, none⟩ ∧ c' = cN) := by
  have hbN' : Below wa.heap.size wa wb := ((Below.refl wa.heap.size wa).drew).trans hbN
  have hL0 : 0 < e.enc.length := by rw [T.enc_len]; omega
  obtain ⟨gN, cN', hform⟩ := Joins.ownsRow_form hoN hL0
  simp only [Value.slice.injEq] at hform
  obtain ⟨rfl, _, rfl⟩ := hform
  have hslN := Sl.of_own hoN
  obtain ⟨bN, oN, heN, hatN⟩ := hslN.2.2.2 hL0
  simp only [Option.some.injEq, Addr.mk.injEq, and_true] at heN
  obtain ⟨rfl, rfl⟩ := heN
  have hbb := hb.trans (hbN'.mono hb.size)
  exact ⟨gN, cN, hatN, ⟨hslN.2.1, hslN.2.2.1⟩, (hoN.lt gN rfl).1, ownsRow_below' h9 hbN', ownsRow_below' h10 hbN', hE.below hbN', hbb, hbb.size, hbN'.size, rfl, rfl⟩

/-- Behind the exponent 0 there is nothing. -/
theorem T.zero_last {d r : T} {n n' : Int} {e : T} (h : (d.app (.c n .z (.c n' e r))).Nf) : (T.z : T) ≠ .z := by
  exfalso
  induction d with
  | z =>
    have h1 := T.ok_c.1 h.2.2.2.2
    cases e <;> simp [T.cmp] at h1
  | c m f q _ ih => exact ih h.2.2.2.1

theorem cnt_mulT {q a p : T} (x : Int) : (q.app (.c x p a)).cnt = q.cnt + (a.cnt + 1) := by rw [T.app_cnt]; rfl

set_option maxRecDepth 100000 in
set_option maxHeartbeats 8000000 in
theorem l2Times_any (b1 o1 n1 c1 b2 o2 n2 c2 : Nat) (s t : T) (w : World) (hs : s.Nf) (ht : t.Nf) (hn1 : n1 = s.enc.length) (hn2 : n2 = t.enc.length) (hl1 : n1 ≤ 1000) (hl2 : n2 ≤ 1000)
    (hc1 : n1 ≤ c1) (hm1 : c1 ≤ maxLen) (hc2 : n2 ≤ c2) (hm2 : c2 ≤ maxLen) (ha1 : At w b1 o1 s.enc) (ha2 : At w b2 o2 t.enc) :
    Calls Try.prog 43 #[.slice (some ⟨b1, o1, none⟩) n1 c1, .slice (some ⟨b2, o2, none⟩) n2 c2] w (IntPost w (T.mul s t).enc) := by
  obtain ⟨i0, hi, hz0, hz1, hz2⟩ := info_parts info_int
  obtain ⟨j0, hj, hy0, hy1, hy2⟩ := info_parts info_ints
  have HA1 := Lib.hid ha1
  have HA2 := Lib.hid ha2
  have HS := Lib.hid hs
  have HT := Lib.hid ht
  have HN1 := Lib.hid hn1
  have HN2 := Lib.hid hn2
  have k1 := Lib.hid (l1Terms_old b1 o1 n1 c1 s.enc s w hn1.symm (by omega) hc1 hm1 ha1 rfl)
  have hcs := T.cnt_le s
  have hct := T.cnt_le t
  have hes := T.enc_len s
  have het := T.enc_len t
  have hsc : s.cnt ≤ 1000 := by omega
  have htc : t.cnt ≤ 1000 := by omega
  have hml : (T.mul s t).enc.length ≤ 10000000 := T.mul_len s t (by omega) (by omega)
  clear ha1 ha2 hs ht hn1 hn2 hcs hct hes het
  go_enter Try.func43, Try.ntmps43
  go_wp2_with fail
  refine (k1.out).mono ?_
  rintro ee w1 ⟨v5, v6, es6, rfl, ho5, ho6, hE6, _, hb1⟩
  obtain ⟨a5, c5, rfl, hv5⟩ := own_form ho5
  obtain ⟨a6, c6, rfl, hv6⟩ := own_form ho6
  have hcap5 := own_cap' ho5 rfl
  have hcap6 := own_cap' ho6 rfl
  have k2 := Lib.hid (l1Terms_old b2 o2 n2 c2 t.enc t w1 HN2.out.symm (by omega) hc2 hm2 (HA2.out.below hb1 (HA2.out.lt (T.enc_ne t))) rfl)
  have Hb1 := Lib.hid hb1
  have HE6 := Lib.hid (hE6.below hb1)
  have Hv5 := Lib.hid hv5
  have Hv6 := Lib.hid hv6
  clear ho5 ho6 hE6 hb1 hv5 hv6
  go_wp2_with fail
  refine (k2.out).mono ?_
  rintro ee w2 ⟨v7, v8, es8, rfl, ho7, ho8, hE8, _, hb2⟩
  obtain ⟨a7, c7, rfl, hv7⟩ := own_form ho7
  obtain ⟨a8, c8, rfl, hv8⟩ := own_form ho8
  have Hb2 := Lib.hid hb2
  have Hb12 := Lib.hid (Hb1.out.trans (hb2.mono Hb1.out.size))
  have HE6' := Lib.hid (HE6.out.below hb2)
  have HE8 := Lib.hid (hE8.below hb2)
  have Hv7 := Lib.hid hv7
  have Hv8 := Lib.hid hv8
  have hs12 := hb2.size
  clear ho7 ho8 hE8 hb2 hv7 hv8
  cases s with
  | z =>
    have hz : (T.z).cnt = 0 := rfl
    have hfin : IntPost w (T.mul .z t).enc (.returned (.slice (some ⟨w2.heap.size, 0, none⟩) 1 1)) (w2.alloc (.cells #[.int .i64 0] 3)) :=
      ⟨_, 1, rfl, Joins.ownsRow_le (World.ownsRow_lit (base := w2.heap.size) w2 _ 1 (Nat.le_refl _) (by simp [maxLen]) rfl) Hb12.out.size, Hb12.out.alloc Hb12.out.size _⟩
    have Hfin := Lib.hid hfin
    rw [hz]
    clear hfin
    go_wp2_with fail
    go_ret
    exact Hfin.out
  | c m p a =>
    obtain ⟨nx, hnx⟩ : ∃ nx, nx = (T.c m p a).cnt := ⟨_, rfl⟩
    have hnxp : 0 < nx := by rw [hnx]; simp [T.cnt]
    have hnxb : (((nx : Nat) : Int) == 0) = false := by simp; omega
    rw [← hnx]
    have Hnx := Lib.hid hnx
    clear hnx
    by_cases htz : t = .z
    · subst htz
      have hz : (T.z).cnt = 0 := rfl
      have hfin : IntPost w (T.mul (.c m p a) .z).enc (.returned (.slice (some ⟨w2.heap.size, 0, none⟩) 1 1)) (w2.alloc (.cells #[.int .i64 0] 3)) :=
        ⟨_, 1, rfl, Joins.ownsRow_le (World.ownsRow_lit (base := w2.heap.size) w2 _ 1 (Nat.le_refl _) (by simp [maxLen]) rfl) Hb12.out.size, Hb12.out.alloc Hb12.out.size _⟩
      have Hfin := Lib.hid hfin
      rw [hz]
      clear hfin
      go_wp2_with fail
      go_ret
      exact Hfin.out
    · have htp : 0 < t.cnt := by
        cases t with
        | z => exact absurd rfl htz
        | c n0 q0 r0 => simp [T.cnt]
      clear htz
      have hpos : 0 < (T.c m p a).cnt := by simp [T.cnt]
      obtain ⟨g5, rfl, hg5, hcc5⟩ := Hv5.out hpos
      obtain ⟨g6, rfl, hg6, hcc6⟩ := Hv6.out hpos
      obtain ⟨g7, rfl, hg7, hcc7⟩ := Hv7.out htp
      obtain ⟨g8, rfl, hg8, hcc8⟩ := Hv8.out htp
      obtain ⟨be, oe, ce, es6', hes6, hate, hce, hcem, hE6t⟩ := HE6'.out
      have hgg5 : g5 < w2.heap.size := by omega
      have hgg6 : g6 < w2.heap.size := by omega
      have HC5 := Lib.hid (row_drop (fun j hj => hcc5 j hj) (by simp [T.times_len]) hg5 Hb2.out)
      have HC6 := Lib.hid (row_drop (fun j hj => hcc6 j hj) HE6.out.length hg6 Hb2.out)
      have x5 : w2.cell? ⟨g5, 0, none⟩ = some (.int .i64 m) := by have h := HC5.out 0 0 (.int .i64 m) rfl; rwa [Addr.add_lit] at h
      have x6 : w2.cell? ⟨g6, 0, none⟩ = some (.slice (some ⟨be, oe, none⟩) p.enc.length ce) := by have h := HC6.out 0 0 (.slice (some ⟨be, oe, none⟩) p.enc.length ce) (by rw [hes6]; rfl); rwa [Addr.add_lit] at h
      have Hes6 := Lib.hid hes6
      have Hate := Lib.hid hate
      have Hcc7 := Lib.hid hcc7
      have Hcc8 := Lib.hid hcc8
      have HE6t := Lib.hid hE6t
      have Hmb := Lib.hid (show 1 ≤ m ∧ m ≤ 9999 from ⟨HS.out.1, HS.out.2.1⟩)
      have Hpn := Lib.hid HS.out.2.2.1
      have hpl : p.enc.length ≤ 1000 := by have h1 := T.enc_len (T.c m p a); rw [T.body_c, List.length_cons, List.length_append] at h1; have := HN1.out; omega
      have hnx := Hnx.out
      obtain ⟨nt, hnt⟩ : ∃ nt, nt = t.cnt := ⟨_, rfl⟩
      obtain ⟨na, hna⟩ : ∃ na, na = a.cnt := ⟨_, rfl⟩
      have hnx1 : nx = na + 1 := by rw [hnx, hna]; rfl
      obtain ⟨res, hres⟩ : ∃ res, res = T.mul (.c m p a) t := ⟨_, rfl⟩
      have hmulT : T.mulT m p a t = res := hres.symm
      have HmulT := Lib.hid hmulT
      have hle4 : res.enc.length ≤ 10000000 := by rw [hres]; exact hml
      rw [← hnt]
      rw [← hnx] at hcap5 hcap6 hpos hsc
      rw [← hnt] at htp htc
      have hntb : (((nt : Nat) : Int) == 0) = false := by simp; omega
      have Hnt := Lib.hid hnt
      have Hna := Lib.hid hna
      have Hnx1 := Lib.hid hnx1
      have Hres := Lib.hid hres
      have hna1 : na ≤ 1000 := by omega
      have hnxz : (0 : Int) < (nx : Int) := by omega
      have hst0 : MulSR w2 m p a t nt (.slice (some ⟨w2.heap.size, 0, none⟩) 0 0) (.slice (some ⟨w2.heap.size + 1, 0, none⟩) 0 0) (.int .i64 (0 : Nat)) ((w2.alloc (.cells #[] 3)).alloc (.cells #[] 23)) := by
        have hL : (w2.alloc (.cells #[] 3)).ownsRow w2.heap.size 3 1 (.slice (some ⟨w2.heap.size, 0, none⟩) 0 0) 0 (ints []) := World.ownsRow_lit w2 #[] 0 (Nat.le_refl _) (by simp [maxLen]) rfl
        have hL2 := World.ownsRow_lit (base := w2.heap.size) (e := 23) (size := 1) (w2.alloc (.cells #[] 3)) #[] 0 (by simp) (by simp [maxLen]) rfl
        rw [World.size_alloc] at hL2
        exact ⟨0, .z, t, .z, [], _, _, 0, 0, 0, rfl, hnt, rfl, rfl, rfl, rfl, .inr (Nat.le_refl _), Nat.zero_le _, rfl, rfl, hL.alloc _, hL2, rfl, ((Below.refl _ _).alloc (Nat.le_refl _) _).alloc (by simp) _⟩
      have Hst0 := Lib.hid hst0
      clear hes6 hate hcc5 hcc6 hcc7 hcc8 hE6t hnx hnt hna hnx1 hres hmulT hst0
      go_wp2_with fail
      go_loopg [9, 10, 11] nt (fun gk v9 v10 v11 wr => MulSR w2 m p a t gk v9 v10 v11 wr)
      case atStart => exact Hst0.out
      case round =>
        obtain ⟨i, d, u, q, es, a9, a10, c9, c10, qn, rfl, hgk, hdu, hdi, hmu, hqn, hqu, hqi, rfl, rfl, ho9, ho10, hEF, hbw⟩ := hrel
        have Hgk := Lib.hid hgk
        have Hdu := Lib.hid hdu
        have Hdi := Lib.hid hdi
        have Hmu := Lib.hid hmu
        have Hqn := Lib.hid hqn
        have Ho9 := Lib.hid (show wr.ownsRow w2.heap.size 3 1 (.slice a9 qn c9) qn (ints q.times) from ho9)
        have Ho10 := Lib.hid ho10
        have HEF := Lib.hid hEF
        have Hbw := Lib.hid hbw
        have hws := hbw.size
        have hcnt : nt = i + u.cnt := by rw [Hnt.out, ← hdu, T.app_cnt, hdi]
        have hup : i < nt → 0 < u.cnt := fun h => by omega
        have hiu : ¬ i < nt → u.cnt = 0 := fun h => by have := Hgk.out; have := Hnt.out; omega
        have hqb : qn ≤ 3000 := by have := Hna.out; have := Hgk.out; have := Hnt.out; omega
        clear hgk hdu hdi hmu hqn ho9 ho10 hEF hbw hcnt
        by_cases hlt : i < nt
        · obtain ⟨n, f, r, hu⟩ : ∃ n f r, u = .c n f r := T.cnt_pos (hup hlt)
          subst hu
          have hqi' : qn ≤ i := by
            rcases hqu with h | h
            · cases h
            · exact h
          obtain ⟨bf, of, cf, pp, hpE, hcf1, hcf2⟩ := HE8.out.pick Hdu.out Hdi.out
          have hg7' : g7 < w2.heap.size := hg7
          have hg8' : g8 < w2.heap.size := hg8
          have y7 : wr.cell? ⟨g7, i, none⟩ = some (.int .i64 n) := (Hbw.out.cell (p := ⟨g7, i, none⟩) hg7).trans (by rw [Hcc7.out _ (by have := Hnt.out; omega)]; show (ints t.times)[i]? = _; rw [ints, List.getElem?_map, T.times_pick Hdu.out Hdi.out]; rfl)
          have y8 : wr.cell? ⟨g8, i, none⟩ = some (.slice (some ⟨bf, of, none⟩) f.enc.length cf) := (Hbw.out.cell (p := ⟨g8, i, none⟩) hg8).trans (by rw [Hcc8.out _ (by have := Hnt.out; omega)]; exact pp)
          have y5 : wr.cell? ⟨g5, 0, none⟩ = some (.int .i64 m) := (Hbw.out.cell (p := ⟨g5, 0, none⟩) hgg5).trans x5
          have y6 : wr.cell? ⟨g6, 0, none⟩ = some (.slice (some ⟨be, oe, none⟩) p.enc.length ce) := (Hbw.out.cell (p := ⟨g6, 0, none⟩) hgg6).trans x6
          have hnfu : n ≥ 1 ∧ n ≤ 9999 ∧ f.Nf ∧ f.enc.length ≤ 1000 := by
            have h1 := HT.out
            rw [← Hdu.out] at h1
            have h2 := T.nf_last h1
            refine ⟨h2.1, h2.2.1, h2.2.2, ?_⟩
            have h3 := T.enc_len t
            rw [← Hdu.out, T.app_body, T.body_c, Hdu.out] at h3
            simp at h3
            have := HN2.out
            omega
          have Hnf := Lib.hid hnfu
          have hfl : f.enc.length ≤ 1000 := hnfu.2.2.2
          have HpE := Lib.hid hpE
          have Hcf := Lib.hid (And.intro hcf1 hcf2)
          have q1 : IntKind.i64.wrap ((i : Int) + 1) = ((i + 1 : Nat) : Int) := by rw [IntWalk.i64_in _ (by omega)]; rfl
          clear pp hpE hcf1 hcf2 hnfu hup hiu
          by_cases hf : f = .z
          · have hfl1 : f.enc.length = 1 := by rw [hf]; rfl
            have hfl3 : ¬ (1 : Int) < (f.enc.length : Int) := by omega
            have hmn : 0 ≤ m * n ∧ m * n ≤ 9999 * 9999 := ⟨Int.mul_nonneg (by have := Hmb.out.1; omega) (by have := Hnf.out.1; omega), Int.mul_le_mul Hmb.out.2 Hnf.out.2.1 (by have := Hnf.out.1; omega) (by omega)⟩
            obtain ⟨mn, hmn'⟩ : ∃ mn, mn = m * n := ⟨_, rfl⟩
            have q2 : IntKind.i64.wrap (m * n) = mn := by rw [hmn']; exact IntWalk.i64_in _ (by omega)
            have hrz : r = .z := by
              cases r with
              | z => rfl
              | c n' f' r' =>
                have h1 := HT.out
                rw [← Hdu.out, hf] at h1
                exact absurd rfl (T.zero_last h1)
            have hmu2 : T.mulT m p a t = q.app (.c mn p a) := by rw [Hmu.out, hf, T.mulT_zero, hmn']
            have Hmu2 := Lib.hid hmu2
            have Hrz := Lib.hid hrz
            have Hf := Lib.hid hf
            have Hmn' := Lib.hid hmn'
            have y7w := Lib.hid ((Hbw.out.cell (p := ⟨g7, i, none⟩) hg7').symm.trans y7)
            have hE1 := Lib.hid (HEF.out.below (((Below.refl wr.heap.size wr).alloc (Nat.le_refl _) (.cells #[.int .i64 mn] 3)).drew))
            have HLx := Lib.hid (show (ints a.times).length = (nx - 1) * 1 by rw [ints_len, T.times_len, ← Hna.out]; have := Hnx1.out; omega)
            have HLe := Lib.hid (show es6'.length = (nx - 1) * 1 by rw [HE6t.out.length, ← Hna.out]; have := Hnx1.out; omega)
            have h11 : (1 : Int) ≤ (nx : Int) := by omega
            have h12 : (nx : Int) ≤ (c5 : Int) := by omega
            have h13 : (nx : Int) ≤ (c6 : Int) := by omega
            have h14 : (1 : Int) ≤ (c5 : Int) := by omega
            have h15 : (1 : Int) ≤ (c6 : Int) := by omega
            clear hf hmn hmn' hrz hmu2
            go_upto_region 13 with fail
            go_cut [9] (fun v9 wx => MulSA w2 q (q.app (.c mn p a)) es qn (.slice a10 qn c10) v9 wx)
            case first =>
              by_cases hx5 : c5 = 1
              · have hx1 : nx = 1 := by omega
                have haz : a = .z := T.cnt_zero (by rw [← Hna.out]; have := Hnx1.out; omega)
                subst hx5
                subst hx1
                go_upto_region 13 with fail
                go_region_held3 (fun w' => w'.cell? ⟨g5, 0, none⟩ = some (.int .i64 m) ∧ w'.cell? ⟨g7, i, none⟩ = some (.int .i64 n)) (first | go_keep | exact ⟨kS0, kS1⟩ | exact ⟨kT0, kT1⟩)
                  ((first
                    | (refine step_append_own_at (by rfl) (.tmp 63) (.tmp 72) 23 (by rfl) w2.heap.size 3 i0 (.int .i64 0) 1 8 Try.underlying23 hi hz0 hz1 hz2 rfl (by decide) _ qn (ints q.times) (by rfl) (Ho9.out.alloc _).drew ⟨wr.heap.size, 0, none⟩ 1 1 [.int .i64 mn] (by rfl) (by rfl) (cell_one_new wr _ _) (ints_oneCell _ [mn]) (by unfold maxLen; omega) (by omega) (by simp; omega) ?_; intro v1 wa ho1 hg1 _ hat1; obtain ⟨ho10a, hE2⟩ := mul_numbers (Ho9.out.alloc _).drew (Ho10.out.alloc _).drew hE1.out hg1 hat1; have hba := ((Hbw.out.alloc hws _).drew).grown hg1 (by simp; omega) (fun r h => (Ho9.out.lt r h).1); have kS0 := (hba.cell (p := ⟨g5, 0, none⟩) hgg5).trans x5; have kS1 := (hba.cell (p := ⟨g7, i, none⟩) hg7').trans y7w.out)
                    | (refine step_append_own_at (by rfl) (.tmp 73) (.tmp 75) 23 (by rfl) w2.heap.size 3 i0 (.int .i64 0) 1 8 Try.underlying23 hi hz0 hz1 hz2 rfl (by decide) _ (qn + 1) _ (by rfl) ho1 _ 0 _ ([] : List Value) (by rfl) rfl no_news (by intro u hu; cases hu) (by unfold maxLen; omega) (by omega) hba.size ?_; intro v2 wb ho2 hg2 _ hat2; have hbb := hba.grown hg2 hba.size (fun r h => (ho1.lt r h).1); have kT0 := (hbb.cell (p := ⟨g5, 0, none⟩) hgg5).trans x5; have kT1 := (hbb.cell (p := ⟨g7, i, none⟩) hg7').trans y7w.out)
                    | fail))
                obtain ⟨ho10b, hE3⟩ := mul_numbers ho1 ho10a hE2 hg2 hat2
                obtain ⟨a9', c9', rfl, _⟩ := own_form ho2
                have hfin : ∀ wx, wb = wx → MulSA w2 q (q.app (.c mn p a)) es qn (.slice a10 qn c10) (.slice a9' (qn + 1 + 0) c9') wx := by
                  rintro wx rfl
                  have e1 : qn + 1 + 0 = (q.app (.c mn p a)).cnt := by have h1 := Hna.out; have h2 := Hnx1.out; rw [cnt_mulT, Hqn.out]; omega
                  have e2 : ints (q.app (.c mn p a)).times = ints q.times ++ [.int .i64 mn] ++ ([] : List Value) := by rw [T.times_app]; rw [haz]; simp [ints, T.times]
                  rw [e1] at ho2 hE3 ⊢
                  exact ⟨a9', c9', rfl, by rw [e2]; exact ho2, ho10b, hE3, hbb⟩
                have Hfin := Lib.hid hfin
                clear hfin ho1 hg1 hat1 ho10a hE2 hba ho2 hg2 hat2 hbb ho10b hE3 kS0 kS1 kT0 kT1
                go_wp2_with fail
                go_meet
                exact Hfin.out _ rfl

              · have hx7 : ¬ (c5 : Int) = 1 := by omega
                go_upto_region 13 with fail
                go_region_held3 (fun w' => w'.cell? ⟨g5, 0, none⟩ = some (.int .i64 m) ∧ w'.cell? ⟨g7, i, none⟩ = some (.int .i64 n)) (first | go_keep | exact ⟨kS0, kS1⟩ | exact ⟨kT0, kT1⟩)
                  ((first
                    | (refine step_append_own_at (by rfl) (.tmp 63) (.tmp 72) 23 (by rfl) w2.heap.size 3 i0 (.int .i64 0) 1 8 Try.underlying23 hi hz0 hz1 hz2 rfl (by decide) _ qn (ints q.times) (by rfl) (Ho9.out.alloc _).drew ⟨wr.heap.size, 0, none⟩ 1 1 [.int .i64 mn] (by rfl) (by rfl) (cell_one_new wr _ _) (ints_oneCell _ [mn]) (by unfold maxLen; omega) (by omega) (by simp; omega) ?_; intro v1 wa ho1 hg1 _ hat1; obtain ⟨ho10a, hE2⟩ := mul_numbers (Ho9.out.alloc _).drew (Ho10.out.alloc _).drew hE1.out hg1 hat1; have hba := ((Hbw.out.alloc hws _).drew).grown hg1 (by simp; omega) (fun r h => (Ho9.out.lt r h).1); have kS0 := (hba.cell (p := ⟨g5, 0, none⟩) hgg5).trans x5; have kS1 := (hba.cell (p := ⟨g7, i, none⟩) hg7').trans y7w.out)
                    | (refine step_append_own_at (by rfl) (.tmp 73) (.tmp 75) 23 (by rfl) w2.heap.size 3 i0 (.int .i64 0) 1 8 Try.underlying23 hi hz0 hz1 hz2 rfl (by decide) _ (qn + 1) _ (by rfl) ho1 ⟨g5, 1, none⟩ (nx - 1) (c5 - 1) (ints a.times) (by rfl) HLx.out (fun j v hj => (hba.cell (p := (⟨g5, 1, none⟩ : Addr).add j) (by rw [Addr.add_lit]; exact hgg5)).trans (HC5.out 1 j v hj)) (ints_one _) (by unfold maxLen; omega) (by omega) hba.size ?_; intro v2 wb ho2 hg2 _ hat2; have hbb := hba.grown hg2 hba.size (fun r h => (ho1.lt r h).1); have kT0 := (hbb.cell (p := ⟨g5, 0, none⟩) hgg5).trans x5; have kT1 := (hbb.cell (p := ⟨g7, i, none⟩) hg7').trans y7w.out)
                    | fail))
                obtain ⟨ho10b, hE3⟩ := mul_numbers ho1 ho10a hE2 hg2 hat2
                obtain ⟨a9', c9', rfl, _⟩ := own_form ho2
                have hfin : ∀ wx, wb = wx → MulSA w2 q (q.app (.c mn p a)) es qn (.slice a10 qn c10) (.slice a9' (qn + 1 + (nx - 1)) c9') wx := by
                  rintro wx rfl
                  have e1 : qn + 1 + (nx - 1) = (q.app (.c mn p a)).cnt := by have h1 := Hna.out; have h2 := Hnx1.out; rw [cnt_mulT, Hqn.out]; omega
                  have e2 : ints (q.app (.c mn p a)).times = ints q.times ++ [.int .i64 mn] ++ (ints a.times) := by rw [T.times_app]; simp [ints, T.times]
                  rw [e1] at ho2 hE3 ⊢
                  exact ⟨a9', c9', rfl, by rw [e2]; exact ho2, ho10b, hE3, hbb⟩
                have Hfin := Lib.hid hfin
                clear hfin ho1 hg1 hat1 ho10a hE2 hba ho2 hg2 hat2 hbb ho10b hE3 kS0 kS1 kT0 kT1
                go_wp2_with fail
                go_meet
                exact Hfin.out _ rfl

            case rest =>
              obtain ⟨a9', c9', rfl, ho9', ho10', hE', hb'⟩ := hcut
              go_step
              obtain ⟨wk, rfl⟩ : ∃ wk : World, wk = wc := ⟨_, rfl⟩
              have Ho9k := Lib.hid ho9'
              have Ho10k := Lib.hid ho10'
              have hE1 := Lib.hid (hE'.below (((Below.refl wk.heap.size wk).alloc (Nat.le_refl _) (.cells #[.slice (some ⟨be, oe, none⟩) p.enc.length ce] 23)).drew))
              have Hbk := Lib.hid hb'
              have hwk := hb'.size
              have z6 : wk.cell? ⟨g6, 0, none⟩ = some (.slice (some ⟨be, oe, none⟩) p.enc.length ce) := (hb'.cell (p := ⟨g6, 0, none⟩) hgg6).trans x6
              clear ho9' ho10' hE' hb'
              by_cases hx6 : c6 = 1
              · have hx1 : nx = 1 := by omega
                subst hx6
                subst hx1
                go_upto_region 14 with fail
                go_region_held3 (fun w' => w'.cell? ⟨g6, 0, none⟩ = some (.slice (some ⟨be, oe, none⟩) p.enc.length ce)) (first | go_keep | exact kS0 | exact kT0)
                  ((first
                    | (refine step_append_own_at (by rfl) (.tmp 77) (.tmp 81) 47 (by rfl) w2.heap.size 23 j0 (.slice none 0 0) 1 24 Try.underlying47 hj hy0 hy1 hy2 rfl (by decide) _ qn es (by rfl) (Ho10k.out.alloc _).drew ⟨wk.heap.size, 0, none⟩ 1 1 [.slice (some ⟨be, oe, none⟩) p.enc.length ce] (by rfl) (by rfl) (cell_one_new wk _ _) (slice_oneCell _ _ _) (by unfold maxLen; omega) (by omega) (by simp; omega) ?_; intro v1 wa ho1 hg1 _ hat1; obtain ⟨ho9a, hE2⟩ := mul_exps (Ho9k.out.alloc _).drew (Ho10k.out.alloc _).drew hE1.out hg1 hat1; have hba := ((Hbk.out.alloc hwk _).drew).grown hg1 (by simp; omega) (fun r h => (Ho10k.out.lt r h).1); have kS0 := (hba.cell (p := ⟨g6, 0, none⟩) hgg6).trans x6)
                    | (refine step_append_own_at (by rfl) (.tmp 82) (.tmp 84) 47 (by rfl) w2.heap.size 23 j0 (.slice none 0 0) 1 24 Try.underlying47 hj hy0 hy1 hy2 rfl (by decide) _ (qn + 1) _ (by rfl) ho1 _ 0 _ ([] : List Value) (by rfl) rfl no_news (by intro u hu; cases hu) (by unfold maxLen; omega) (by omega) hba.size ?_; intro v2 wb ho2 hg2 _ hat2; have hbb := hba.grown hg2 hba.size (fun r h => (ho1.lt r h).1); have kT0 := (hbb.cell (p := ⟨g6, 0, none⟩) hgg6).trans x6)
                    | fail))
                obtain ⟨ho9b, hE3⟩ := mul_exps ho9a ho1 hE2 hg2 hat2
                obtain ⟨a10', c10', rfl, _⟩ := own_form ho2
                have hfin : MulSR w2 m p a t (gk - 1) (.slice a9' (q.app (.c mn p a)).cnt c9') (.slice a10' (qn + 1 + 0) c10') (.int .i64 ((i + 1 : Nat) : Int)) wb := by
                  have e1 : qn + 1 + 0 = (q.app (.c mn p a)).cnt := by have h1 := Hna.out; have h2 := Hnx1.out; rw [cnt_mulT, Hqn.out]; omega
                  rw [e1] at ho2 hE3 ⊢
                  have hEa : EF wb (Value.slice a9' (q.app (.c mn p a)).cnt c9').ownBlock (Value.slice a10' (q.app (.c mn p a)).cnt c10').ownBlock (.c mn p a) (.slice (some ⟨be, oe, none⟩) p.enc.length ce :: es6') :=
                    (EC.ef (w := w2) (show EC w2 (.c mn p a) _ from ⟨be, oe, ce, es6', rfl, Hate.out, hce, hcem, HE6t.out⟩) (fun r h => (ho9b.lt r h).1) (fun r h => (ho2.lt r h).1)).below hbb
                  refine ⟨i + 1, d.app (.c n f .z), r, q.app (.c mn p a), _, a9', a10', c9', c10', _, rfl, by have := Hgk.out; have := Hnt.out; omega, by rw [T.app_assoc]; exact Hdu.out, by rw [T.app_cnt, Hdi.out]; rfl, ?_, rfl, .inl Hrz.out, by rw [cnt_mulT, Hqn.out]; omega, rfl, rfl, ho9b, ?_, hE3.join hEa, hbb⟩
                  · rw [Hmu2.out, Hrz.out]; show _ = (q.app (.c mn p a)).app .z; rw [T.app_z]
                  · have e6 : es6' = [] := List.length_eq_zero_iff.1 (by rw [HE6t.out.length, ← Hna.out]; have := Hnx1.out; omega)
                    rw [e6]; rw [List.append_nil] at ho2; exact ho2
                have Hfin := Lib.hid hfin
                clear hfin ho1 hg1 hat1 ho9a hE2 hba ho2 hg2 hat2 hbb ho9b hE3 kS0 kT0
                go_wp2_with fail
                go_roundg (gk - 1)
                case measure => have := Hgk.out; have := Hnt.out; omega
                case rel => exact Hfin.out

              · have hx8 : ¬ (c6 : Int) = 1 := by omega
                go_upto_region 14 with fail
                go_region_held3 (fun w' => w'.cell? ⟨g6, 0, none⟩ = some (.slice (some ⟨be, oe, none⟩) p.enc.length ce)) (first | go_keep | exact kS0 | exact kT0)
                  ((first
                    | (refine step_append_own_at (by rfl) (.tmp 77) (.tmp 81) 47 (by rfl) w2.heap.size 23 j0 (.slice none 0 0) 1 24 Try.underlying47 hj hy0 hy1 hy2 rfl (by decide) _ qn es (by rfl) (Ho10k.out.alloc _).drew ⟨wk.heap.size, 0, none⟩ 1 1 [.slice (some ⟨be, oe, none⟩) p.enc.length ce] (by rfl) (by rfl) (cell_one_new wk _ _) (slice_oneCell _ _ _) (by unfold maxLen; omega) (by omega) (by simp; omega) ?_; intro v1 wa ho1 hg1 _ hat1; obtain ⟨ho9a, hE2⟩ := mul_exps (Ho9k.out.alloc _).drew (Ho10k.out.alloc _).drew hE1.out hg1 hat1; have hba := ((Hbk.out.alloc hwk _).drew).grown hg1 (by simp; omega) (fun r h => (Ho10k.out.lt r h).1); have kS0 := (hba.cell (p := ⟨g6, 0, none⟩) hgg6).trans x6)
                    | (refine step_append_own_at (by rfl) (.tmp 82) (.tmp 84) 47 (by rfl) w2.heap.size 23 j0 (.slice none 0 0) 1 24 Try.underlying47 hj hy0 hy1 hy2 rfl (by decide) _ (qn + 1) _ (by rfl) ho1 ⟨g6, 1, none⟩ (nx - 1) (c6 - 1) es6' (by rfl) HLe.out (fun j v hj => (hba.cell (p := (⟨g6, 1, none⟩ : Addr).add j) (by rw [Addr.add_lit]; exact hgg6)).trans (HC6.out 1 j v (by rw [Hes6.out]; exact hj))) (ec_one HE6t.out) (by unfold maxLen; omega) (by omega) hba.size ?_; intro v2 wb ho2 hg2 _ hat2; have hbb := hba.grown hg2 hba.size (fun r h => (ho1.lt r h).1); have kT0 := (hbb.cell (p := ⟨g6, 0, none⟩) hgg6).trans x6)
                    | fail))
                obtain ⟨ho9b, hE3⟩ := mul_exps ho9a ho1 hE2 hg2 hat2
                obtain ⟨a10', c10', rfl, _⟩ := own_form ho2
                have hfin : MulSR w2 m p a t (gk - 1) (.slice a9' (q.app (.c mn p a)).cnt c9') (.slice a10' (qn + 1 + (nx - 1)) c10') (.int .i64 ((i + 1 : Nat) : Int)) wb := by
                  have e1 : qn + 1 + (nx - 1) = (q.app (.c mn p a)).cnt := by have h1 := Hna.out; have h2 := Hnx1.out; rw [cnt_mulT, Hqn.out]; omega
                  rw [e1] at ho2 hE3 ⊢
                  have hEa : EF wb (Value.slice a9' (q.app (.c mn p a)).cnt c9').ownBlock (Value.slice a10' (q.app (.c mn p a)).cnt c10').ownBlock (.c mn p a) (.slice (some ⟨be, oe, none⟩) p.enc.length ce :: es6') :=
                    (EC.ef (w := w2) (show EC w2 (.c mn p a) _ from ⟨be, oe, ce, es6', rfl, Hate.out, hce, hcem, HE6t.out⟩) (fun r h => (ho9b.lt r h).1) (fun r h => (ho2.lt r h).1)).below hbb
                  refine ⟨i + 1, d.app (.c n f .z), r, q.app (.c mn p a), _, a9', a10', c9', c10', _, rfl, by have := Hgk.out; have := Hnt.out; omega, by rw [T.app_assoc]; exact Hdu.out, by rw [T.app_cnt, Hdi.out]; rfl, ?_, rfl, .inl Hrz.out, by rw [cnt_mulT, Hqn.out]; omega, rfl, rfl, ho9b, ?_, hE3.join hEa, hbb⟩
                  · rw [Hmu2.out, Hrz.out]; show _ = (q.app (.c mn p a)).app .z; rw [T.app_z]
                  · have e6 : True := trivial
                    rw [List.append_assoc] at ho2; exact ho2
                have Hfin := Lib.hid hfin
                clear hfin ho1 hg1 hat1 ho9a hE2 hba ho2 hg2 hat2 hbb ho9b hE3 kS0 kT0
                go_wp2_with fail
                go_roundg (gk - 1)
                case measure => have := Hgk.out; have := Hnt.out; omega
                case rel => exact Hfin.out

          · have hfl2 : 1 < f.enc.length := by
              cases f with
              | z => exact absurd rfl hf
              | c n' f' r' => rw [T.enc_len, T.body_c, List.length_cons]; omega
            have hfl3 : (1 : Int) < (f.enc.length : Int) := by omega
            have Hf := Lib.hid hf
            clear hf
            go_wp2_with (first
              | (at_builtin; refine wpList_append_own_at _ rfl (.tmp 45) (.tmp 50) 23 rfl w2.heap.size 3 i0 (.int .i64 0) 1 8 Try.underlying23 hi hz0 hz1 hz2 rfl (by decide) _ qn (ints q.times) rfl (Ho9.out.alloc _) ⟨wr.heap.size, 0, none⟩ 1 1 [.int .i64 n] rfl rfl (cell_one_new _ _ _) (ints_oneCell _ [n]) (by unfold maxLen; omega) (by omega) (by simp; omega) ?_; intro v1 wa ho1 hg1 _ hat1))
            obtain ⟨a1, c1', rfl, _⟩ := own_form ho1
            have hE1 := HEF.out.below ((Below.refl wr.heap.size wr).alloc (Nat.le_refl _) (.cells #[.int .i64 n] 3))
            obtain ⟨ho10a, hE2⟩ := mul_numbers (Ho9.out.alloc _) (Ho10.out.alloc _) hE1 hg1 hat1
            have hba := (Hbw.out.alloc (by omega) _).grown hg1 (by simp; omega) (fun r h => (Ho9.out.lt r h).1)
            have Ho1 := Lib.hid ho1
            have Ho10a := Lib.hid ho10a
            have HE2 := Lib.hid hE2
            have Hba := Lib.hid hba
            have hwa := hba.size
            have z6 : wa.cell? ⟨g6, 0, none⟩ = some (.slice (some ⟨be, oe, none⟩) p.enc.length ce) := (hba.cell (p := ⟨g6, 0, none⟩) hgg6).trans x6
            have z8 : wa.cell? ⟨g8, i, none⟩ = some (.slice (some ⟨bf, of, none⟩) f.enc.length cf) := (hba.cell (p := ⟨g8, i, none⟩) hg8').trans ((Hbw.out.cell (p := ⟨g8, i, none⟩) hg8').symm.trans y8)
            have ka := Lib.hid (l2Add_any be oe p.enc.length ce bf of f.enc.length cf p f wa.drew Hpn.out Hnf.out.2.2.1 rfl rfl hpl hfl hce hcem Hcf.out.1 Hcf.out.2 (Hate.out.below hba.drew (Hate.out.lt (T.enc_ne p))) (HpE.out.below hba.drew (HpE.out.lt (T.enc_ne f))))
            clear ho1 hg1 hat1 hE1 ho10a hE2 hba
            go_upto_region 12 with fail
            have hg6a : g6 < wa.heap.size := by omega
            have hg8a : g8 < wa.heap.size := by omega
            go_region_held3 (fun w' => w'.cell? ⟨g6, 0, none⟩ = some (.slice (some ⟨be, oe, none⟩) p.enc.length ce) ∧ w'.cell? ⟨g8, i, none⟩ = some (.slice (some ⟨bf, of, none⟩) f.enc.length cf)) (first | go_keep | exact ⟨kS0, kS1⟩ | exact ⟨kT0, kT1⟩)
              ((first
                | (go_at_call 63; (with_reducible refine (ka.out).mono ?_); rintro ee wb ⟨aN, cN, rfl, hoN, hbN⟩; obtain ⟨gN, cN', HatN, HcN, hgN, Ho1b, Ho10b, HE3, Hbb, hsb, hsab, heN⟩ := mul_called (q := q) hoN hbN Ho1.out Ho10a.out HE2.out Hba.out; obtain ⟨rfl, rfl⟩ := heN; have kS0 := (hbN.cell (p := ⟨g6, 0, none⟩) hg6a).trans z6; have kS1 := (hbN.cell (p := ⟨g8, i, none⟩) hg8a).trans z8)
                | (refine step_append_own_at (by rfl) (.tmp 52) (.tmp 61) 47 (by rfl) w2.heap.size 23 j0 (.slice none 0 0) 1 24 Try.underlying47 hj hy0 hy1 hy2 rfl (by decide) _ qn es (by rfl) (Ho10b.alloc _) ⟨wb.heap.size, 0, none⟩ 1 1 [.slice (some ⟨gN, 0, none⟩) (T.add p f).enc.length cN'] (by rfl) (by rfl) (cell_one_new _ _ _) (slice_oneCell _ _ _) (by unfold maxLen; omega) (by omega) (by simp; omega) ?_; intro v2 wd ho2 hg2 _ hat2; have kT0 : wd.cell? ⟨g6, 0, none⟩ = some (.slice (some ⟨be, oe, none⟩) p.enc.length ce) := (hg2.cell (a := ⟨g6, 0, none⟩) ((World.cell?_alloc_past _ _ _ (show g6 < wb.heap.size by omega)).trans kS0) (fun h => by have h9 : w2.heap.size ≤ g6 := (Ho10b.lt _ h.symm).1; omega)); have kT1 : wd.cell? ⟨g8, i, none⟩ = some (.slice (some ⟨bf, of, none⟩) f.enc.length cf) := (hg2.cell (a := ⟨g8, i, none⟩) ((World.cell?_alloc_past _ _ _ (show g8 < wb.heap.size by omega)).trans kS1) (fun h => by have h9 : w2.heap.size ≤ g8 := (Ho10b.lt _ h.symm).1; omega)))
                | fail))
            obtain ⟨a2, c2', rfl, _⟩ := own_form ho2
            have hfin : MulSR w2 m p a t (gk - 1) (.slice a1 (qn + 1) c1') (.slice a2 (qn + 1) c2') (.int .i64 ((i + 1 : Nat) : Int)) wd := by
              have hE4 := ((HE3.below ((Below.refl wb.heap.size wb).alloc (Nat.le_refl _) (.cells #[.slice (some ⟨gN, 0, none⟩) (T.add p f).enc.length cN'] 23)))).snoc (n := n) (HatN.alloc (T.enc_ne (T.add p f)) _) (own_row_lt Ho1.out hgN) (own_row_lt Ho10a.out hgN) HcN.1 HcN.2
              obtain ⟨ho9', hE5⟩ := mul_exps (Ho1b.alloc _) (Ho10b.alloc _) hE4 hg2 hat2
              have hcq : (q.app (.c n (T.add p f) .z)).cnt = qn + 1 := by rw [T.app_cnt, Hqn.out]; rfl
              refine ⟨i + 1, d.app (.c n f .z), r, q.app (.c n (T.add p f) .z), _, a1, a2, c1', c2', qn + 1, rfl, by have := Hgk.out; have := Hnt.out; omega, by rw [T.app_assoc]; exact Hdu.out, by rw [T.app_cnt, Hdi.out]; rfl, ?_, hcq, .inr (by omega), by omega, rfl, rfl, ?_, ho2, hE5, (Hbb.alloc (by omega) _).grown hg2 (by simp; omega) (fun r h => (Ho10b.lt r h).1)⟩
              · rw [T.app_assoc, Hmu.out, T.mulT_pos _ _ _ _ _ Hf.out]; rfl
              · have e1 : ints (q.app (.c n (T.add p f) .z)).times = ints q.times ++ [.int .i64 n] := (ints_snoc q (T.add p f) n).symm
                rw [e1]; exact ho9'
            have Hfin := Lib.hid hfin
            clear ho2 hg2 hat2 hfin
            go_wp2_with fail
            go_roundg (gk - 1)
            case measure => have := Hgk.out; have := Hnt.out; omega
            case rel => exact Hfin.out
        · have hu : u = .z := T.cnt_zero (hiu hlt)
          subst hu
          have hrt : q = res := by rw [← HmulT.out, Hmu.out]; show q = q.app .z; rw [T.app_z]
          have hql : qn = q.cnt := Hqn.out.symm
          have k5 := Lib.hid (l1Make_any a9 a10 qn c9 c10 q wr (by rw [hrt]; omega) (sum_ex Ho10.out HEF.out.ec hql) (sum_sl Ho9.out rfl))
          have Hrt := Lib.hid hrt
          have hle : nt ≤ i := by omega
          clear hrt hup hiu hql
          go_wp2_with fail
          refine (k5.out).mono ?_
          rintro ee w5 ⟨a3, c3, rfl, ho3, hb5⟩
          have hfin : IntPost w (T.mul (.c m p a) t).enc (.returned (.slice a3 q.enc.length c3)) w5 := by
            rw [← Hres.out, ← Hrt.out]
            exact ⟨a3, c3, rfl, Joins.ownsRow_le ho3 (Nat.le_trans Hb12.out.size Hbw.out.size), Hb12.out.trans ((Hbw.out.trans (hb5.mono Hbw.out.size)).mono Hb12.out.size)⟩
          have Hfin := Lib.hid hfin
          clear ho3 hb5 hfin
          go_wp2_with fail
          go_ret
          exact Hfin.out

end Go.Proofs.Ytaleaagnkfbhpab

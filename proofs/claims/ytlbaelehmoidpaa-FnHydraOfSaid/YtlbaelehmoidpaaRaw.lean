/- l20Raw draws the row of a tree. -/
import Derived.Test.YtlbaelehmoidpaaRawKit
import Derived.Deep.RegionHeld3
import Derived.Deep.AppendLies
import Derived.Deep.LoopGhost
import Derived.Deep.DeepCutAuto
import Derived.Deep.CutBlock
namespace Go.Proofs.Ytlbaelehmoidpaa
set_option maxRecDepth 100000
open Go.RowKit

theorem num'_enc0 (r : Int) (h0 : 0 ≤ r) (h1 : r < 4) : ∃ t : T, T.num' r = t.enc ∧ t.enc.length ≤ 3 := by
  by_cases hz : r = 0
  · subst hz; exact ⟨.z, rfl, by simp [T.enc, T.body]⟩
  · exact ⟨.c r .z .z, T.num'_enc (by omega) (by omega), by simp [T.enc, T.body]⟩

theorem div59 {x : Int} (h : x < 60) : x / 59 ≤ 1 := by omega

theorem own_cap {w : World} {B e n c : Nat} {a : Option Addr} {xs : List Value} (h : w.ownsRow B e 1 (.slice a n c) n xs) : n ≤ c := by
  rcases h.2 with ⟨h1, _⟩ | ⟨g, cap, cur, h0, h1, h2, h3, h4, _⟩
  · simp only [Value.slice.injEq] at h1; omega
  · simp only [Value.slice.injEq] at h0; omega

def RawPost (w : World) (g P deep : Nat) (e : Ending) (w' : World) : Prop :=
  ∃ (t : T) (g' c' : Nat), e = .returned (.slice (some ⟨g', 0, none⟩) t.enc.length c') ∧ w'.ownsRow w.heap.size 3 1 (.slice (some ⟨g', 0, none⟩) t.enc.length c') t.enc.length (ints t.enc) ∧
    t.enc.length ≤ Lb deep ∧ RdOk w' g (P + Cb deep) ∧ w.grownBy w' (some g)

/-- None of the slices lies in the block. -/
def Far (b : Nat) (es : List Value) : Prop := ∀ v ∈ es, ∀ a n c, v = .slice (some a) n c → a.block ≠ b

/-- What holds ahead of a round. -/
def RawRel (w : World) (g P L C : Nat) (k : Nat) (v5 v6 v7 : Value) (wr : World) : Prop :=
  ∃ (j : Nat) (t : T) (es : List Value) (gt ct ge ce : Nat), v7 = .int .i64 k ∧ k + j ≤ 3 ∧ t.cnt ≤ j ∧ t.enc.length ≤ 1 + j * (1 + L) ∧ (∀ x ∈ t.times, 0 ≤ x ∧ x ≤ 100 + j) ∧
    v5 = .slice (some ⟨gt, 0, none⟩) t.cnt ct ∧ v6 = .slice (some ⟨ge, 0, none⟩) t.cnt ce ∧
    wr.ownsRow w.heap.size 3 1 v5 t.cnt (ints t.times) ∧ wr.ownsRow w.heap.size 23 1 v6 t.cnt es ∧ EG wr g t es ∧ Far gt es ∧
    RdOk wr g (P + 1 + j * (4 + C)) ∧ w.grownBy wr (some g)

/-- The exponents stay where another block is written. -/
theorem EG.far {w w' : World} {g b : Nat} {t : T} {es : List Value} (h : EG w g t es) (hg : w.grownBy w' (some b)) (hf : Far b es) : EG w' g t es := by
  induction t generalizing es with
  | z => exact h
  | c n e r _ ih =>
    obtain ⟨b', off, cap, es', rfl, h0, h1, h2, h3, h4⟩ := h
    refine ⟨b', off, cap, es', rfl, h0, h1.grow hg (fun hb => ?_), h2, h3, ih h4 (fun v hv => hf v (List.mem_cons_of_mem _ hv))⟩
    cases hb
    exact hf _ List.mem_cons_self ⟨b, off, none⟩ _ _ rfl rfl

theorem EG.far_new {w : World} {g b : Nat} {t : T} {es : List Value} (h : EG w g t es) (hb : w.heap.size ≤ b) : Far b es := by
  induction t generalizing es with
  | z => simp only [EG] at h; subst h; intro v hv; cases hv
  | c n e r _ ih =>
    obtain ⟨b', off, cap, es', rfl, h0, h1, h2, h3, h4⟩ := h
    have hl := h1.lt (T.enc_ne e)
    intro v hv a n' c' he
    rcases List.mem_cons.1 hv with rfl | hv
    · cases he; show b' ≠ b; omega
    · exact ih h4 v hv a n' c' he

theorem T.ins_cnt (d u e : T) (x : Int) : (d.app (.c x e u)).cnt = (d.app u).cnt + 1 := by rw [T.app_cnt, T.app_cnt]; simp [T.cnt]; omega
theorem T.ins_len (d u e : T) (x : Int) : (d.app (.c x e u)).enc.length = (d.app u).enc.length + 1 + e.enc.length := by
  rw [T.enc_len, T.app_body, T.body_c, T.enc_len (d.app u), T.app_body]; simp; omega
theorem T.ins_times (d u e : T) (x : Int) : (d.app (.c x e u)).times = d.times ++ x :: u.times := by rw [T.times_app]; rfl

/-- The end of a round that counts a term up. -/
theorem raw_up {w w5 : World} {g P L C k j a gt ct ge ce : Nat} {t d e r : T} {n : Int} {es : List Value} (hgl : g < w.heap.size) (hkj : k + (j + 1) ≤ 3) (htj : t.cnt ≤ j)
    (hlen : t.enc.length ≤ 1 + j * (1 + L)) (htm : ∀ x ∈ t.times, 0 ≤ x ∧ x ≤ 100 + j) (hd : d.app (.c n e r) = t) (ha : d.cnt = a)
    (h5 : w5.ownsRow w.heap.size 3 1 (.slice (some ⟨gt, 0, none⟩) t.cnt ct) t.cnt (ints t.times)) (h6 : w5.ownsRow w.heap.size 23 1 (.slice (some ⟨ge, 0, none⟩) t.cnt ce) t.cnt es)
    (hE : EG w5 g t es) (hf : Far gt es) (hr : RdOk w5 g (P + 1 + (j + 1) * (4 + C))) (hg : w.grownBy w5 (some g)) :
    RawRel w g P L C k (.slice (some ⟨gt, 0, none⟩) t.cnt ct) (.slice (some ⟨ge, 0, none⟩) t.cnt ce) (.int .i64 k) (w5.setCell ⟨gt, a, none⟩ (.int .i64 (n + 1))) := by
  have hst := h5.stored a (.int .i64 (n + 1))
  have hc : (d.app (.c (n + 1) e r)).cnt = t.cnt := by rw [← hd, T.ins_cnt, T.ins_cnt]
  have hgt := (h5.lt gt rfl).1
  refine ⟨j + 1, d.app (.c (n + 1) e r), es, gt, ct, ge, ce, rfl, hkj, by omega, ?_, ?_, by rw [hc], by rw [hc], ?_, ?_, ?_, hf, ?_, ?_⟩
  · have h1 : (d.app (.c (n + 1) e r)).enc.length = t.enc.length := by rw [← hd, T.ins_len, T.ins_len]
    rw [h1, Nat.add_mul]; omega
  · intro x hx
    rw [T.ins_times] at hx
    rw [← hd, T.ins_times] at htm
    rcases List.mem_append.1 hx with h1 | h1
    · have := htm x (List.mem_append_left _ h1); omega
    · rcases List.mem_cons.1 h1 with rfl | h1
      · have := htm n (List.mem_append_right _ List.mem_cons_self); omega
      · have := htm x (List.mem_append_right _ (List.mem_cons_of_mem _ h1)); omega
  · rw [hc]
    have h1 := hst.1
    have h2 : (ints t.times).set a (.int .i64 (n + 1)) = ints (d.app (.c (n + 1) e r)).times := by
      rw [← hd, T.ins_times, T.ins_times, ← ha]
      have h3 : (ints d.times).length = d.cnt := by rw [ints_len, T.times_len]
      have h4 : ints (d.times ++ n :: r.times) = ints d.times ++ .int .i64 n :: ints r.times := by simp [ints]
      have h5 : ints (d.times ++ (n + 1) :: r.times) = ints d.times ++ .int .i64 (n + 1) :: ints r.times := by simp [ints]
      rw [h4, h5, List.set_append_right _ _ (by omega), h3, Nat.sub_self]; rfl
    rw [h2] at h1
    exact h1
  · rw [hc]
    exact h6.kept hst.2 (own_ne h6 h5 (by decide))
  · have h1 : EG (w5.setCell ⟨gt, a, none⟩ (.int .i64 (n + 1))) g (d.app (.c n e r)) es := by rw [hd]; exact hE.far hst.2 hf
    exact h1.renum
  · exact hr.kept hst.2 (fun k hk => by cases hk; omega)
  · exact grownBy_step hg hst.2 (fun r hr => .inr (by cases hr; exact hgt))

/-- The end of a round that puts a term in. -/
theorem raw_in {w w5 : World} {g P L C k j g5 c5 g6 c6 gx cx B5 B6 m : Nat} {t d u e : T} {x : Int} {es : List Value} (hkj : k + (j + 1) ≤ 3) (htj : t.cnt ≤ j) (hm : m = t.cnt + 1)
    (hlen : t.enc.length ≤ 1 + j * (1 + L)) (hle : e.enc.length ≤ L) (htm : ∀ x ∈ t.times, 0 ≤ x ∧ x ≤ 100 + j) (hd : d.app u = t) (hx0 : 0 ≤ x) (hx1 : x ≤ 100)
    (hB5 : w.heap.size ≤ B5) (hB6 : w.heap.size ≤ B6)
    (h5 : w5.ownsRow B5 3 1 (.slice (some ⟨g5, 0, none⟩) m c5) m (ints (d.app (.c x e u)).times))
    (h6 : w5.ownsRow B6 23 1 (.slice (some ⟨g6, 0, none⟩) m c6) m (es.take d.cnt ++ .slice (some ⟨gx, 0, none⟩) e.enc.length cx :: es.drop d.cnt))
    (hE : EG w5 g t es) (hgx : g < gx) (hax : At w5 gx 0 e.enc) (hcx : e.enc.length ≤ cx) (hcm : cx ≤ maxLen) (hf : Far g5 es) (hf2 : gx ≠ g5)
    (hr : RdOk w5 g (P + 1 + (j + 1) * (4 + C))) (hg : w.grownBy w5 (some g)) :
    RawRel w g P L C k (.slice (some ⟨g5, 0, none⟩) m c5) (.slice (some ⟨g6, 0, none⟩) m c6) (.int .i64 k) w5 := by
  have hc : (d.app (.c x e u)).cnt = m := by rw [T.ins_cnt, hd, hm]
  rw [← hd] at hE
  obtain ⟨e1, e2⟩ := hE.part
  refine ⟨j + 1, d.app (.c x e u), es.take d.cnt ++ .slice (some ⟨gx, 0, none⟩) e.enc.length cx :: es.drop d.cnt, g5, c5, g6, c6, rfl, hkj, by omega, ?_, ?_, by rw [hc], by rw [hc], ?_, ?_, ?_, ?_, hr, hg⟩
  · rw [T.ins_len, hd, Nat.add_mul]; omega
  · intro y hy
    rw [T.ins_times] at hy
    rw [← hd, T.times_app] at htm
    rcases List.mem_append.1 hy with h1 | h1
    · have := htm y (List.mem_append_left _ h1); omega
    · rcases List.mem_cons.1 h1 with rfl | h1
      · omega
      · have := htm y (List.mem_append_right _ h1); omega
  · rw [hc]; exact Joins.ownsRow_le h5 hB5
  · rw [hc]; exact Joins.ownsRow_le h6 hB6
  · exact e1.join ⟨gx, 0, cx, _, rfl, hgx, hax, hcx, hcm, e2⟩
  · intro v hv a n c he
    rcases List.mem_append.1 hv with h1 | h1
    · exact hf v (List.mem_of_mem_take h1) a n c he
    · rcases List.mem_cons.1 h1 with rfl | h1
      · cases he; exact hf2
      · exact hf v (List.mem_of_mem_drop h1) a n c he

theorem gn {wz W w' : World} {row : Option Nat} (h : wz.grownBy W none) (k : W.grownBy w' row) (hr : ∀ r, row = some r → wz.heap.size ≤ r) : wz.grownBy w' none := by
  refine ⟨k.os.trans h.os, k.tape.trans h.tape, k.output.trans h.output, Nat.le_trans h.size k.size, fun i hi hne => ?_⟩
  rw [k.block i (Nat.lt_of_lt_of_le hi h.size) (fun e => by have := hr i e.symm; omega)]
  exact h.block i hi hne

theorem gsome {w w' : World} (h : w.grownBy w' none) (row : Option Nat) : w.grownBy w' row := ⟨h.os, h.tape, h.output, h.size, fun i hi _ => h.block i hi (fun e => by cases e)⟩

theorem es_front {w : World} {B e n b c a : Nat} {es : List Value} {o : Obj} (ho : w.ownsRow B e 1 (.slice (some ⟨b, 0, none⟩) n c) n es) :
    ∀ j x, (es.take a)[j]? = some x → (w.alloc o).drew.cell? ((⟨b, 0, none⟩ : Addr).add j) = some x := by
  intro j x hx
  show (w.alloc o).cell? _ = _
  have hj : j < (es.take a).length := (List.getElem?_eq_some_iff.1 hx).1
  rw [List.length_take] at hj
  have hl := ho.1
  rw [Addr.add_lit, Nat.zero_add, World.cell?_alloc_past _ _ _ (ho.lt b rfl).2, ho.cellAt j (by omega)]
  rw [List.getElem?_take_of_lt (by omega)] at hx
  exact hx

theorem es_back {w W : World} {B e n b c a : Nat} {es : List Value} (ho : w.ownsRow B e 1 (.slice (some ⟨b, 0, none⟩) n c) n es) (hG : w.grownBy W none) :
    ∀ j x, (es.drop a)[j]? = some x → W.cell? ((⟨b, a, none⟩ : Addr).add j) = some x := by
  intro j x hx
  have hj : j < (es.drop a).length := (List.getElem?_eq_some_iff.1 hx).1
  rw [List.length_drop] at hj
  have hl := ho.1
  rw [Addr.add_lit]
  refine hG.cell (a := ⟨b, a + j, none⟩) ?_ (by simp)
  rw [ho.cellAt (a + j) (by omega)]
  rw [List.getElem?_drop] at hx
  exact hx

theorem es_front2 {w : World} {B e n b c a : Nat} {es : List Value} {o o2 : Obj} (ho : w.ownsRow B e 1 (.slice (some ⟨b, 0, none⟩) n c) n es) :
    ∀ j x, (es.take a)[j]? = some x → ((w.alloc o).drew.alloc o2).cell? ((⟨b, 0, none⟩ : Addr).add j) = some x := by
  intro j x hx
  have h := es_front (o := o) ho j x hx
  rw [Addr.add_lit] at h ⊢
  rw [World.cell?_alloc_past]
  · exact h
  · have h2 := (ho.lt b rfl).2
    show b < (w.alloc o).heap.size
    rw [World.size_alloc]; omega

theorem lit_past (w : World) (o : Obj) (e : TypeId) : ((w.alloc o).alloc (.cells #[] e)).drew.ownsRow w.heap.size e 1 (.slice (some ⟨w.heap.size + 1, 0, none⟩) 0 0) 0 [] := by
  have h := World.ownsRow_lit (base := w.heap.size) (e := e) (size := 1) (w.alloc o) #[] 0 (by simp) (by simp [maxLen]) rfl
  rw [World.size_alloc] at h
  exact h.drew

/-- A cell that was made before the row grew. -/
theorem v_kept2 {w w' : World} {o : Obj} {V : Value} {ty : TypeId} (hg : ((w.alloc o).drew.alloc (.cells #[V] ty)).grownBy w' (some w.heap.size)) :
    ∀ j u, [V][j]? = some u → w'.cell? ((⟨w.heap.size + 1, 0, none⟩ : Addr).add j) = some u := by
  intro j u hj
  match j, hj with
  | 0, hj =>
    simp at hj; subst hj
    refine hg.cell (a := ⟨w.heap.size + 1, 0, none⟩) ?_ (by simp)
    have h1 : (w.alloc o).drew.heap.size = w.heap.size + 1 := World.size_alloc w o
    have := cell_one_at (w.alloc o).drew V ty (w.heap.size + 1) h1.symm 0 V rfl
    exact this
  | (j + 1), hj => simp at hj

theorem v_kept3 {w w' : World} {o : Obj} {V : Value} {ty : TypeId} (hg : ((w.alloc (.cells #[V] ty)).alloc o).drew.grownBy w' (some (w.heap.size + 1))) :
    ∀ j u, [V][j]? = some u → w'.cell? ((⟨w.heap.size, 0, none⟩ : Addr).add j) = some u := by
  intro j u hj
  match j, hj with
  | 0, hj =>
    simp at hj; subst hj
    refine hg.cell (a := ⟨w.heap.size, 0, none⟩) ?_ (by simp)
    show ((w.alloc (.cells #[V] ty)).alloc o).cell? _ = _
    rw [World.cell?_alloc_past _ _ _ (by simp)]
    exact cell_one_at w V ty w.heap.size rfl 0 V rfl
  | (j + 1), hj => simp at hj

/-- What the exponent is. -/
def ExpRel (wr : World) (g Q L : Nat) (v8 : Value) (wx : World) : Prop :=
  ∃ (e : T) (gx cx : Nat), v8 = .slice (some ⟨gx, 0, none⟩) e.enc.length cx ∧ At wx gx 0 e.enc ∧ g < gx ∧ e.enc.length ≤ cx ∧ cx ≤ maxLen ∧ e.enc.length ≤ L ∧ RdOk wx g Q ∧ wr.grownBy wx (some g)

/-- Where it belongs. -/
def AtRel (w4 : World) (t e : T) (v9 : Value) (wx : World) : Prop :=
  ∃ (a : Nat) (d u : T), v9 = .int .i64 a ∧ a ≤ t.cnt ∧ d.app u = t ∧ d.cnt = a ∧ (∀ n f r, u = .c n f r → f.cmp e ≠ 1) ∧ Below w4.heap.size w4 wx

def TimesRel (wz : World) (g Z n : Nat) (d u e : T) (v5 : Value) (wx : World) : Prop :=
  ∃ (xx : Int) (g2 c2 : Nat), 0 ≤ xx ∧ xx ≤ 100 ∧ v5 = .slice (some ⟨g2, 0, none⟩) n c2 ∧ wx.ownsRow wz.heap.size 3 1 v5 n (ints (d.app (.c xx e u)).times) ∧ RdOk wx g (Z + 2) ∧ wz.grownBy wx (some g)

def ExpsRel (w9 : World) (n : Nat) (es : List Value) (v6 : Value) (wx : World) : Prop :=
  ∃ (g2 c2 : Nat), v6 = .slice (some ⟨g2, 0, none⟩) n c2 ∧ wx.ownsRow w9.heap.size 23 1 v6 n es ∧ w9.grownBy wx none

set_option maxRecDepth 100000 in
set_option maxHeartbeats 4000000 in
theorem l20Raw_any (N : Nat) : ∀ (deep g P : Nat) (w : World), deep < N → deep ≤ 3 → P ≤ 100000000 + (3 - deep) * 10000 → RdOk w g P →
    Calls Try.prog 62 #[.pointer (some ⟨g, 0, none⟩), .int .i64 deep] w (RawPost w g P deep) := by
  induction N with
  | zero => intro deep g P w hN; omega
  | succ N ih =>
    intro deep g P w hN hd3 hP hrd
    cases deep with
    | zero =>
      have k1 := Lib.hid (pick_any g P 4 w (by omega) (by omega) (by omega) hrd)
      have hz : (((0 : Nat) : Int) == 0) = true := rfl
      clear hrd
      go_enter Try.func62, Try.ntmps62
      go_wp2_with fail
      refine (k1.out).mono ?_
      rintro ee w1 ⟨r, rfl, hr, hrd1, hg1⟩
      have Hr1 := Lib.hid hrd1
      have Hg1 := Lib.hid hg1
      have k2 := Lib.hid (spec_OrdOf r w1 (by have := hr.1; omega) (by have := hr.2.1 (by omega); omega))
      obtain ⟨t, ht, htl⟩ := num'_enc0 r hr.1 (hr.2.1 (by omega))
      rw [ht] at k2
      clear hr hrd1 hg1 ht
      go_wp2_with fail
      refine (k2.out).mono ?_
      rintro ee w2 ⟨ao, cap, rfl, ho, hb⟩
      obtain ⟨g', c', hv⟩ := Joins.ownsRow_form ho (by rw [T.enc_len]; omega)
      simp only [Value.slice.injEq] at hv
      obtain ⟨rfl, _, rfl⟩ := hv
      have Ho := Lib.hid ho
      have Hb := Lib.hid hb
      have Htl := Lib.hid htl
      clear ho hb htl
      go_wp2_with fail
      go_ret
      have hlt : g < w1.heap.size := by obtain ⟨_, _, _, _, h1, _⟩ := Hr1.out; exact (Array.getElem?_eq_some_iff.1 h1).1
      exact ⟨t, g', cap, rfl, Joins.ownsRow_le Ho.out Hg1.out.size, Htl.out, Hr1.out.kept (below_grown Hb.out none) (fun k hk => by cases hk), grownBy_step Hg1.out (below_grown Hb.out none) (fun k hk => by cases hk)⟩
    | succ dp =>
      have k1 := Lib.hid (fun w h => pick_any g P 4 w (by omega) (by omega) (by omega) h)
      have hz : ((((dp + 1 : Nat) : Int)) == 0) = false := by simp; omega
      obtain ⟨i0, hi, hz0, hz1, hz2⟩ := info_parts info_int
      obtain ⟨j0, hj, hy0, hy1, hy2⟩ := info_parts info_ints
      have hgl : g < w.heap.size := by obtain ⟨_, _, _, _, h1, _⟩ := hrd; exact (Array.getElem?_eq_some_iff.1 h1).1
      have hrd2 : RdOk ((w.alloc (.cells #[] 3)).alloc (.cells #[] 23)) g P := (hrd.kept (World.grownBy_alloc w _ none) (fun k hk => by cases hk)).kept (World.grownBy_alloc _ _ none) (fun k hk => by cases hk)
      have Hrd := Lib.hid hrd2
      have hLb := Lb_small (a := dp) (by omega)
      have hCb := Cb_small (a := dp) (by omega)
      have hLe : Lb (dp + 1) = 4 + 3 * Lb dp := rfl
      have hCe : Cb (dp + 1) = 13 + 3 * Cb dp := rfl
      have HLe := Lib.hid hLe
      have HCe := Lib.hid hCe
      clear hrd hrd2 hLe hCe
      go_enter Try.func62, Try.ntmps62
      go_wp2_with fail
      refine (k1.out _ Hrd.out).mono ?_
      rintro ee w1 ⟨r0, rfl, hr0, hrd1, hg1⟩
      have hr00 := hr0.1
      have hr01 := hr0.2.1 (by omega)
      obtain ⟨k0, rfl⟩ := Int.eq_ofNat_of_zero_le hr00
      have hk0 : k0 ≤ 3 := by omega
      have Hr1 := Lib.hid hrd1
      have Hg1 := Lib.hid hg1
      clear hr0 hrd1 hg1 hr00 hr01
      go_wp2_with fail
      go_loopg [5, 6, 7] k0 (fun k v5 v6 v7 wr => RawRel w g P (Lb dp) (Cb dp) k v5 v6 v7 wr)
      case atStart =>
        have hs1 : w.heap.size + 2 ≤ w1.heap.size := by have := Hg1.out.size; simpa using this
        have hL : (w.alloc (.cells #[] 3)).ownsRow w.heap.size 3 1 (.slice (some ⟨w.heap.size, 0, none⟩) 0 0) 0 (ints []) := World.ownsRow_lit w #[] 0 (Nat.le_refl _) (by simp [maxLen]) rfl
        have hL2 := World.ownsRow_lit (base := w.heap.size) (e := 23) (size := 1) (w.alloc (.cells #[] 3)) #[] 0 (by simp) (by simp [maxLen]) rfl
        rw [World.size_alloc] at hL2
        refine ⟨0, .z, [], w.heap.size, 0, w.heap.size + 1, 0, rfl, hk0, Nat.le_refl _, (by show (T.z.enc).length ≤ 1 + 0 * (1 + Lb dp); simp [T.enc, T.body]), (by intro x hx; cases hx), rfl, rfl, ?_, ?_, rfl, (by intro v hv; cases hv), by simpa using Hr1.out, ?_⟩
        · exact (hL.alloc _).kept Hg1.out (.inr (by simp [Value.ownBlock]; omega))
        · exact hL2.kept Hg1.out (.inr (by simp [Value.ownBlock]; omega))
        · exact grownBy_step (grownBy_step (World.grownBy_alloc w _ (some g)) (World.grownBy_alloc _ _ none) (fun k hk => by cases hk)) Hg1.out (fun k hk => .inl (by cases hk; rfl))
      case round =>
        obtain ⟨j, t, es, gt, ct, ge, ce, rfl, hkj, htj, hlen, htm, rfl, rfl, ho5, ho6, hEG, hfar, hrd, hgr⟩ := hrel
        have Hlen := Lib.hid hlen
        have Htm := Lib.hid htm
        have Hfar := Lib.hid hfar
        clear hlen htm hfar
        by_cases hk : 0 < gk
        · have Ho5 := Lib.hid ho5
          have Ho6 := Lib.hid ho6
          have HEG := Lib.hid hEG
          have Hgr := Lib.hid hgr
          have Hrd' := Lib.hid hrd
          have hQ : P + 1 + j * (4 + Cb dp) ≤ 200000000 := by
            have : j * (4 + Cb dp) ≤ 3 * (4 + Cb dp) := Nat.mul_le_mul_right _ (by omega)
            omega
          have hQ3 : P + 1 + j * (4 + Cb dp) ≤ P + 3100 := by
            have : j * (4 + Cb dp) ≤ 3 * (4 + Cb dp) := Nat.mul_le_mul_right _ (by omega)
            omega
          obtain ⟨Q, hQe⟩ : ∃ Q, Q = P + 1 + j * (4 + Cb dp) := ⟨_, rfl⟩
          rw [← hQe] at hQ hQ3 Hrd'
          have HQe := Lib.hid hQe
          have hgw : g < wr.heap.size := by have := hgr.size; omega
          clear ho5 ho6 hEG hgr hrd hQe
          have kp4 := Lib.hid (pick_any g Q 4 (wr.alloc (.cells #[.int .i64 0] 3)) (by omega) (by omega) (by omega) (Hrd'.out.kept (World.grownBy_alloc wr _ none) (fun k hk => by cases hk)))
          go_wp2_with fail
          refine (kp4.out).mono ?_
          rintro ee w2 ⟨r1, rfl, hr1, hrd2, hg2⟩
          have hr10 := hr1.1
          have Hrd2 := Lib.hid hrd2
          have Hg2 := Lib.hid (grownBy_step (World.grownBy_alloc wr (.cells #[.int .i64 0] 3) (some g)) hg2 (fun k hk => .inl (by cases hk; rfl)))
          have Hg2' := Lib.hid hg2
          clear hr1 hrd2 hg2
          go_upto_if 26 with fail
          go_cut [8] (fun v8 wx => ExpRel wr g (Q + 2 + Cb dp) (Lb dp) v8 wx)
          case first =>
            by_cases hr1p : 0 < r1
            · have kpd := Lib.hid (pick_any g (Q + 1) ((dp : Int) + 1) w2 (by omega) (by omega) (by omega) Hrd2.out)
              go_wp2_with fail
              refine (kpd.out).mono ?_
              rintro ee w3 ⟨r2, rfl, hr2, hrd3, hg3⟩
              have hr20 := hr2.1
              have hr21 := hr2.2.1 (by omega)
              obtain ⟨q2, rfl⟩ := Int.eq_ofNat_of_zero_le hr20
              have hq2 : q2 ≤ dp := by omega
              have kih := Lib.hid (ih q2 g (Q + 1 + 1) w3 (by omega) (by omega) (by omega) hrd3)
              have Hg3 := Lib.hid hg3
              clear hr2 hrd3 hg3 hr20 hr21
              go_wp2_with fail
              refine (kih.out).mono ?_
              rintro ee w4 ⟨e, gx, cx, rfl, hox, hlx, hrd4, hg4⟩
              have hmx : At w4 gx 0 e.enc ∧ g < gx ∧ e.enc.length ≤ cx ∧ cx ≤ maxLen := by
                have h1 := Sl.of_own hox
                obtain ⟨b', off', he, hat'⟩ := h1.2.2.2 (by rw [T.enc_len]; omega)
                simp only [Option.some.injEq, Addr.mk.injEq] at he
                obtain ⟨rfl, rfl, _⟩ := he
                have h2 := (hox.lt gx rfl).1
                have h3 : g < w3.heap.size := Nat.lt_of_lt_of_le hgw (Nat.le_trans Hg2.out.size Hg3.out.size)
                exact ⟨hat', by omega, h1.2.1, h1.2.2.1⟩
              have hle : e.enc.length ≤ Lb dp := Nat.le_trans hlx (Lb_le hq2)
              have hfin : ExpRel wr g (Q + 2 + Cb dp) (Lb dp) (.slice (some ⟨gx, 0, none⟩) e.enc.length cx) w4 :=
                ⟨e, gx, cx, rfl, hmx.1, hmx.2.1, hmx.2.2.1, hmx.2.2.2, hle, hrd4.mono (show Q + 1 + 1 + Cb q2 ≤ Q + 2 + Cb dp by have := Cb_le hq2; omega), grownBy_trans (grownBy_trans Hg2.out Hg3.out) hg4⟩
              have Hfin := Lib.hid hfin
              clear hmx hlx hrd4 hg4 hox hq2 hle hfin
              go_wp2_with fail
              go_meet
              exact Hfin.out
            · have hfin : ExpRel wr g (Q + 2 + Cb dp) (Lb dp) (.slice (some ⟨wr.heap.size, 0, none⟩) 1 1) w2 := by
                refine ⟨.z, wr.heap.size, 1, rfl, ?_, hgw, Nat.le_refl _, by decide, ?_, Hrd2.out.mono (by omega), Hg2.out⟩
                · have h1 : At (wr.alloc (.cells #[.int .i64 0] 3)) wr.heap.size 0 (T.enc .z) := by
                    intro j hj
                    obtain rfl : j = 0 := by simp [T.enc, T.body] at hj; omega
                    exact Joins.cell_alloc_mark_at _ _ _ _ _ _ rfl
                  exact h1.grow Hg2'.out (fun he => by simp at he; omega)
                · have := Lb_le (Nat.zero_le dp); simp [Lb, T.enc, T.body] at this ⊢; omega
              have Hfin := Lib.hid hfin
              clear hfin
              go_wp2_with fail
              go_meet
              exact Hfin.out
          case rest =>
            obtain ⟨e, gx, cx, rfl, hax, hgx, hcx, hcm, hle, hrd4, hg4⟩ := hcut
            have Hax := Lib.hid hax
            have HrdX := Lib.hid hrd4
            have Hg4 := Lib.hid hg4
            have Ho5c := Lib.hid (own_rd Ho5.out hg4 hgl)
            have Ho6c := Lib.hid (own_rd Ho6.out hg4 hgl)
            have HEGc := Lib.hid (HEG.out.grow hg4 (fun k hk => .inl (by cases hk; exact Nat.le_refl _)))
            have hgel : ge < wc.heap.size := (Ho6c.out.lt ge rfl).2
            have hgtl : gt < wc.heap.size := (Ho5c.out.lt gt rfl).2
            clear hax hrd4 hg4 kp4 Hrd2 Hg2 Hg2' Hrd'
            obtain ⟨w4, rfl⟩ : ∃ w4 : World, w4 = wc := ⟨_, rfl⟩
            have htl : t.enc.length ≤ 5000 := by
              have h1 := Hlen.out
              have : j * (1 + Lb dp) ≤ 3 * (1 + Lb dp) := Nat.mul_le_mul_right _ (by omega)
              omega
            have hel : e.enc.length ≤ 5000 := by omega
            have hfl : ∀ (d : T) (n : Int) (f r : T), d.app (.c n f r) = t → f.enc.length ≤ 5000 := by
              intro d n f r h
              have h1 := congrArg (fun x => T.body x) h
              have h2 := congrArg List.length h1
              simp only [T.app_body, T.body_c, List.length_append, List.length_cons] at h2
              have := T.enc_len t
              omega
            have HFL := Lib.hid hfl
            clear hfl
            go_upto_block 2 with fail
            go_cut [9] (fun v9 wx => AtRel w4 t e v9 wx)
            case first =>
              go_wp2_with fail
              go_loopg [9] (t.cnt) (fun k v9 wx => ∃ (a : Nat) (d u : T), v9 = .int .i64 a ∧ k + a = t.cnt ∧ Hid (d.app u = t ∧ d.cnt = a) ∧ Below w4.heap.size w4 wx)
              case atStart => exact ⟨0, .z, t, rfl, by omega, ⟨rfl, rfl⟩, Below.refl _ _⟩
              case round =>
                obtain ⟨a, d, u, rfl, hka, HU, hbq⟩ := hrel
                obtain ⟨h1, h2⟩ := HU.out
                have hct : t.cnt = a + u.cnt := by rw [← h1, T.app_cnt, h2]
                have Hbq := Lib.hid hbq
                have Hka := Lib.hid hka
                have hat : a ≤ t.cnt := by omega
                by_cases hu : u = .z
                · have hae : t.cnt ≤ a := by rw [hu] at hct; simp [T.cnt] at hct; omega
                  have hfin : AtRel w4 t e (.int .i64 a) wr := ⟨a, d, u, rfl, hat, h1, h2, (fun n f r h => by rw [hu] at h; cases h), Hbq.out⟩
                  have Hfin := Lib.hid hfin
                  clear h1 h2 hct hbq hu hka hfin
                  go_wp2_with fail
                  go_meet
                  exact Hfin.out
                · obtain ⟨n, f, r, hu2⟩ : ∃ n f r, u = .c n f r := by
                    cases u with
                    | z => exact absurd rfl hu
                    | c n f r => exact ⟨n, f, r, rfl⟩
                  have hlt : a < t.cnt := by rw [hu2] at hct; simp [T.cnt] at hct; omega
                  obtain ⟨be, oe, ce', p2, p3, p4, p5⟩ := HEGc.out.ec.pick (by rw [← hu2]; exact h1) h2
                  have x2 : wr.cell? ⟨ge, a, none⟩ = some (.slice (some ⟨be, oe, none⟩) f.enc.length ce') := (Hbq.out.cell (p := ⟨ge, a, none⟩) hgel).trans (by rw [Ho6c.out.cellAt _ (by omega)]; exact p2)
                  have hff := HFL.out d n f r (by rw [← hu2]; exact h1)
                  have kc := Lib.hid (l1Compare_any (f.body.length + 1) be oe ce' gx 0 cx f.enc.length e.enc.length f e wr (by omega) rfl rfl (by omega) (by omega) p4 p5 hcx hcm (p3.below Hbq.out (p3.lt (T.enc_ne f))) (Hax.out.below Hbq.out (Hax.out.lt (T.enc_ne e))))
                  have Hu2 := Lib.hid hu2
                  obtain ⟨cv, hcv⟩ : ∃ cv, cv = f.cmp e := ⟨_, rfl⟩
                  rw [← hcv] at kc
                  have Hcv := Lib.hid hcv
                  clear h1 h2 hct hbq hu hka hu2 p2 p3 p4 p5 hcv
                  by_cases hc1 : 0 < cv
                  · go_wp2_with fail
                    refine (kc.out).mono ?_
                    rintro ee w5 ⟨rfl, hb5⟩
                    have Hb5 := Lib.hid (Hbq.out.trans (hb5.mono Hbq.out.size))
                    clear hb5
                    go_wp2_with fail
                    go_roundg (gk - 1)
                    case measure => have := Hka.out; omega
                    case rel => exact ⟨a + 1, d.app (.c n f .z), r, by go_num, by have := Hka.out; omega, ⟨by rw [T.app_assoc]; rw [← HU.out.1, Hu2.out]; rfl, by rw [T.app_cnt, HU.out.2]; rfl⟩, Hb5.out⟩
                  · have hfin : ∀ wx, Below w4.heap.size w4 wx → AtRel w4 t e (.int .i64 a) wx := fun wx hb => ⟨a, d, u, rfl, hat, HU.out.1, HU.out.2, (fun n' f' r' h => by rw [Hu2.out] at h; cases h; have := Hcv.out; omega), hb⟩
                    have Hfin := Lib.hid hfin
                    clear hfin
                    go_wp2_with fail
                    refine (kc.out).mono ?_
                    rintro ee w5 ⟨rfl, hb5⟩
                    have Hb5 := Lib.hid (Hbq.out.trans (hb5.mono Hbq.out.size))
                    clear hb5
                    go_wp2_with fail
                    go_meet
                    exact Hfin.out _ Hb5.out
            case rest =>
              obtain ⟨a, d, u, rfl, hat, hdu, hda, hfirst, hbz⟩ := hcut
              go_step
              have Hbz := Lib.hid hbz
              obtain ⟨wz, rfl⟩ : ∃ wz : World, wz = wc := ⟨_, rfl⟩
              have HU := Lib.hid (show d.app u = t ∧ d.cnt = a from ⟨hdu, hda⟩)
              have Hfirst := Lib.hid hfirst
              have hct : t.cnt = a + u.cnt := by rw [← hdu, T.app_cnt, hda]
              have HzO5 := Lib.hid (ownsRow_below' Ho5c.out hbz)
              have HzO6 := Lib.hid (ownsRow_below' Ho6c.out hbz)
              have HzR := Lib.hid (HrdX.out.kept (below_grown hbz none) (fun k hk => by cases hk))
              have HzE := Lib.hid (HEGc.out.below hbz)
              have HzX := Lib.hid (Hax.out.below hbz (Hax.out.lt (T.enc_ne e)))
              have Hz0 := Lib.hid (grownBy_trans (grownBy_trans Hgr.out Hg4.out) (below_grown hbz (some g)))
              have hgxl : gx < wz.heap.size := HzX.out.lt (T.enc_ne e)
              have hzs : w.heap.size ≤ wz.heap.size := Hz0.out.size
              have Hct := Lib.hid hct
              clear hbz hdu hda hfirst hct
              by_cases hq : ∃ n r, u = .c n e r
              · obtain ⟨n, r, hu2⟩ := hq
                have Hu2 := Lib.hid hu2
                have hlt : a < t.cnt := by have := Hct.out; rw [hu2] at this; simp [T.cnt] at this; omega
                have hd2 : d.app (.c n e r) = t := by rw [← hu2]; exact HU.out.1
                obtain ⟨be, oe, ce', p2, p3, p4, p5⟩ := HzE.out.ec.pick hd2 HU.out.2
                have x2 : wz.cell? ⟨ge, a, none⟩ = some (.slice (some ⟨be, oe, none⟩) e.enc.length ce') := by rw [HzO6.out.cellAt _ (by omega)]; exact p2
                have kc := Lib.hid (l1Compare_any (e.body.length + 1) be oe ce' gx 0 cx e.enc.length e.enc.length e e wz (by omega) rfl rfl (by omega) (by omega) p4 p5 hcx hcm p3 HzX.out)
                rw [T.cmp_refl] at kc
                clear p2 p3 p4 p5 hu2 hd2
                go_wp2_with fail
                refine (kc.out).mono ?_
                rintro ee w5 ⟨rfl, hb5⟩
                have Ho5d := Lib.hid (ownsRow_below' HzO5.out hb5)
                have Ho6d := Lib.hid (ownsRow_below' HzO6.out hb5)
                have x1 : w5.cell? ⟨gt, a, none⟩ = some (.int .i64 n) := by
                  rw [Ho5d.out.cellAt _ (by omega)]
                  have hd2 : d.app (.c n e r) = t := by rw [← Hu2.out]; exact HU.out.1
                  show (ints t.times)[a]? = _
                  rw [ints, List.getElem?_map, T.times_pick hd2 HU.out.2]; rfl
                have f1 := Ho5d.out.frozenAt a
                have Hb5 := Lib.hid hb5
                have hn0 : 0 ≤ n ∧ n ≤ 100 + j := Htm.out n (by rw [← HU.out.1, Hu2.out, T.times_app]; simp [T.times])
                have hn1 := hn0.1
                have hn2 := hn0.2
                have hfin : RawRel w g P (Lb dp) (Cb dp) (gk - 1) (.slice (some ⟨gt, 0, none⟩) t.cnt ct) (.slice (some ⟨ge, 0, none⟩) t.cnt ce) (.int .i64 (gk - 1 : Nat)) (w5.setCell ⟨gt, a, none⟩ (.int .i64 (n + 1))) :=
                  raw_up hgl (by omega) htj Hlen.out Htm.out (by rw [← Hu2.out]; exact HU.out.1) HU.out.2 Ho5d.out Ho6d.out (HzE.out.below Hb5.out) Hfar.out
                    ((HzR.out.kept (below_grown Hb5.out none) (fun k hk => by cases hk)).mono (by rw [HQe.out, Nat.add_mul]; omega)) (grownBy_trans Hz0.out (below_grown Hb5.out (some g)))
                have Hfin := Lib.hid hfin
                clear hb5 hn0 hfin
                go_wp2_with fail
                go_roundg (gk - 1)
                case measure => omega
                case rel =>
                  have e1 : ((gk - 1 : Nat) : Int) = (gk : Int) - 1 := by omega
                  have := Hfin.out
                  rw [e1] at this
                  exact this
              · have Hq := Lib.hid hq
                clear hq
                go_upto_region 14 with fail
                go_cut [59] (fun v59 wx => v59 = .bool false ∧ Below wz.heap.size wz wx)
                case first =>
                  by_cases hu : u = .z
                  · have hae : t.cnt ≤ a := by have := Hct.out; rw [hu] at this; simp [T.cnt] at this; omega
                    clear hu
                    go_wp2_with fail
                    go_meet
                    exact ⟨rfl, Below.refl _ _⟩
                  · obtain ⟨n, f, r, hu2⟩ : ∃ n f r, u = .c n f r := by
                      cases u with
                      | z => exact absurd rfl hu
                      | c n f r => exact ⟨n, f, r, rfl⟩
                    have hlt : a < t.cnt := by have := Hct.out; rw [hu2] at this; simp [T.cnt] at this; omega
                    have hd2 : d.app (.c n f r) = t := by rw [← hu2]; exact HU.out.1
                    obtain ⟨be, oe, ce', p2, p3, p4, p5⟩ := HzE.out.ec.pick hd2 HU.out.2
                    have x2 : wz.cell? ⟨ge, a, none⟩ = some (.slice (some ⟨be, oe, none⟩) f.enc.length ce') := by rw [HzO6.out.cellAt _ (by omega)]; exact p2
                    have hff := HFL.out d n f r hd2
                    have kc := Lib.hid (l1Compare_any (f.body.length + 1) be oe ce' gx 0 cx f.enc.length e.enc.length f e wz (by omega) rfl rfl (by omega) (by omega) p4 p5 hcx hcm p3 HzX.out)
                    have hcv : f.cmp e = -1 := by
                      have h1 := Hfirst.out n f r hu2
                      have h2 : f.cmp e ≠ 0 := fun h => Hq.out ⟨n, r, by rw [hu2, T.cmp_eq h]⟩
                      rcases T.cmp_vals f e with h | h | h <;> omega
                    rw [hcv] at kc
                    clear p2 p3 p4 p5 hu2 hd2 hcv hu
                    go_wp2_with fail
                    refine (kc.out).mono ?_
                    rintro ee w5 ⟨rfl, hb5⟩
                    have Hb5 := Lib.hid hb5
                    clear hb5
                    go_wp2_with fail
                    go_meet
                    exact ⟨rfl, Hb5.out⟩
                case rest =>
                  obtain ⟨rfl, hby⟩ := hcut
                  go_step
                  obtain ⟨wy, rfl⟩ : ∃ wy : World, wy = wc := ⟨_, rfl⟩
                  have HyO5 := Lib.hid (ownsRow_below' HzO5.out hby)
                  have HyO6 := Lib.hid (ownsRow_below' HzO6.out hby)
                  have HyR' := Lib.hid (HzR.out.kept (below_grown hby none) (fun k hk => by cases hk))
                  have HyE := Lib.hid (HzE.out.below hby)
                  have HyX := Lib.hid (HzX.out.below hby hgxl)
                  have Hy0 := Lib.hid (grownBy_trans Hz0.out (below_grown hby (some g)))
                  have hgxy : gx < wy.heap.size := HyX.out.lt (T.enc_ne e)
                  have hys : w.heap.size ≤ wy.heap.size := Hy0.out.size
                  clear hby HzO5 HzO6 HzR HzE HzX Hz0 Ho5c Ho6c HEGc HrdX Hax hgxl hgel hgtl
                  obtain ⟨Z, hZ⟩ : ∃ Z, Z = Q + 2 + Cb dp := ⟨_, rfl⟩
                  have HyR := Lib.hid (show RdOk wy g Z by rw [hZ]; exact HyR'.out)
                  have hZ1 : Z ≤ 1000000000 := by omega
                  have hZ2 : Z + 1 ≤ 1000000000 := by omega
                  have HZ := Lib.hid hZ
                  have hgy : g < wy.heap.size := by omega
                  clear hZ HyR'
                  go_upto_region 16 with fail
                  go_cut [5] (fun v5 wx => TimesRel wy g Z (t.cnt + 1) d u e v5 wx)
                  case first =>
                    have hct1 : t.cnt ≤ ct := (Sl.of_own HyO5.out).2.1
                    have hct2 : ct ≤ maxLen := (Sl.of_own HyO5.out).2.2.1
                    have HN1 := Lib.hid (show ∀ j u, (ints d.times)[j]? = some u → (wy.alloc (.cells #[] 3)).drew.cell? ((⟨gt, 0, none⟩ : Addr).add j) = some u from raw_front (HU.out.1) HyO5.out)
                    have HL1 := Lib.hid (show (ints d.times).length = a * 1 by have := HU.out.2; have := ints_len d.times; have := T.times_len d; omega)
                    have HLu := Lib.hid (show (ints u.times).length = (t.cnt - a) * 1 by have h1 := HU.out.1; have := HU.out.2; have := ints_len u.times; have := T.times_len u; have h2 := congrArg T.cnt h1; rw [T.app_cnt] at h2; omega)
                    have Hgt := Lib.hid (show gt ≠ g by have := (HyO5.out.lt gt rfl).1; omega)
                    have HB := Lib.hid (fun (W : World) (hG : wy.grownBy W (some g)) => raw_back HU.out.1 HU.out.2 HyO5.out hG Hgt.out)
                    have hi1 : (0 : Int) ≤ (a : Int) := by omega
                    have hi2 : (a : Int) ≤ (ct : Int) := by omega
                    have hi3 : a ≤ ct := by omega
                    have hi4 : (a : Int) ≤ (t.cnt : Int) := by omega
                    have hi5 : (t.cnt : Int) ≤ (ct : Int) := by omega
                    by_cases hcap : a < ct
                    · have hi6 : (a : Int) < (ct : Int) := by omega
                      have hi7 : ¬ (ct : Int) = (a : Int) := by omega
                      have hi8 : ¬ ct = a := by omega
                      go_region_held3 (fun _ => True) (first | trivial | go_keep)
                        ((first
                          | (refine step_append_own (by rfl) (.tmp 68) (.tmp 71) 23 (by rfl) wy.heap.size 3 i0 (.int .i64 0) 1 8 Try.underlying23 hi hz0 hz1 hz2 rfl (by decide) _ 0 [] (by rfl) ((World.ownsRow_lit (base := wy.heap.size) wy #[] 0 (Nat.le_refl _) (by simp [maxLen]) rfl).drew) ⟨gt, 0, none⟩ a ct (ints d.times) (by rfl) HL1.out HN1.out (ints_one _) (by unfold maxLen; omega) (by omega) (by simp) ?_; intro v1 w5 ho1 hg1 hn1; have G1 := Lib.hid (gs (ga wy _ (some g)) hg1 (fun r e => by cases e; exact Nat.le_refl _)); have hR5 := Lib.hid (rd_gs (HyR.out.kept (ga wy _ none) (fun k hk => by cases hk)) hg1 hgy (fun r e => by cases e; exact Nat.le_refl _)))
                          | (go_at_call 24; (with_reducible refine (pick_any g Z 3 w5 hZ1 (by decide) (by decide) hR5.out).mono ?_); rintro ee w6 ⟨x1, rfl, hx1, hR6, hg6⟩; have hx10 := hx1.1; have hx11 := hx1.2.1 (by decide); have G2 := Lib.hid (grownBy_trans G1.out hg6); have ho1a := Lib.hid (own_rd (own0 ho1) hg6 hgy); have hR6' := Lib.hid hR6; have q1 : IntKind.i64.wrap (1 + x1) = 1 + x1 := IntWalk.i64_in _ (by omega))
                          | (go_at_call 24; (with_reducible refine (pick_any g (Z + 1) 60 w6 hZ2 (by decide) (by decide) hR6'.out).mono ?_); rintro ee w7 ⟨x2, rfl, hx2, hR7, hg7⟩; have hx20 := hx2.1; have hx21 := hx2.2.1 (by decide); have G3 := Lib.hid (grownBy_trans G2.out hg7); have ho1b := Lib.hid (own_rd ho1a.out hg7 hgy); have hR7' := Lib.hid hR7; have hs7 : wy.heap.size ≤ w7.heap.size := G3.out.size; have hd0 : 0 ≤ x2 / 59 := Int.ediv_nonneg hx20 (by decide); have hd1 : x2 / 59 ≤ 1 := div59 hx21; have q2 : x2.tdiv 59 = x2 / 59 := Int.tdiv_eq_ediv_of_nonneg hx20; have q3 : IntKind.i64.wrap (x2 / 59) = x2 / 59 := IntWalk.i64_in _ (by omega); have q4 : IntKind.i64.wrap (x2 / 59 * 60) = x2 / 59 * 60 := IntWalk.i64_in _ (by omega); have q5 : IntKind.i64.wrap (1 + x1 + x2 / 59 * 60) = 1 + x1 + x2 / 59 * 60 := IntWalk.i64_in _ (by omega))
                          | (refine step_append_own (by rfl) (.tmp 72) (.tmp 81) 23 (by rfl) wy.heap.size 3 i0 (.int .i64 0) 1 8 Try.underlying23 hi hz0 hz1 hz2 rfl (by decide) _ a (ints d.times) (by rfl) (ho1b.out.alloc _) ⟨w7.heap.size, 0, none⟩ 1 1 [.int .i64 (1 + x1 + x2 / 59 * 60)] (by rfl) (by rfl) (cell_one_new _ _ _) (ints_oneCell _ [_]) (by unfold maxLen; omega) (by omega) (by simp; omega) ?_; intro v2 w8 ho2 hg8 hn2; have G8 := Lib.hid (gs (gs G3.out (World.grownBy_alloc w7 _ none) (fun r e => by cases e)) hg8 (fun r e => (ho1b.out.lt r e).1)); have hs8 : wy.heap.size ≤ w8.heap.size := G8.out.size; have Ho2 := Lib.hid ho2)
                          | (refine step_append_own (by rfl) (.tmp 82) (.tmp 85) 23 (by rfl) wy.heap.size 3 i0 (.int .i64 0) 1 8 Try.underlying23 hi hz0 hz1 hz2 rfl (by decide) _ (a + 1) (ints d.times ++ [.int .i64 (1 + x1 + x2 / 59 * 60)]) (by rfl) Ho2.out ⟨gt, a, none⟩ (t.cnt - a) (ct - a) (ints u.times) (by rfl) HLu.out (HB.out _ G8.out) (ints_one _) (by unfold maxLen; omega) (by omega) (by omega) ?_; intro v3 w9 ho3 hg9 hn3; have G9 := Lib.hid (gs G8.out hg9 (fun r e => (Ho2.out.lt r e).1)); have hR9 := Lib.hid (rd_gs (rd_gs (hR7'.out.kept (World.grownBy_alloc w7 _ none) (fun k hk => by cases hk)) hg8 hgy (fun r e => (ho1b.out.lt r e).1)) hg9 hgy (fun r e => (Ho2.out.lt r e).1)); have Ho3 := Lib.hid ho3)
                          | fail))
                      obtain ⟨g2, c2, rfl⟩ := Joins.ownsRow_form Ho3.out (by omega)
                      have hfin : TimesRel wy g Z (t.cnt + 1) d u e (.slice (some ⟨g2, 0, none⟩) (a + 1 + (t.cnt - a)) c2) w9 := by
                        refine ⟨1 + x1 + x2 / 59 * 60, g2, c2, by omega, by omega, by rw [show a + 1 + (t.cnt - a) = t.cnt + 1 by omega], ?_, hR9.out, G9.out⟩
                        have h1 := Ho3.out
                        rw [show a + 1 + (t.cnt - a) = t.cnt + 1 by omega] at h1 ⊢
                        rw [T.ins_times]
                        simpa [ints] using h1
                      have Hfin := Lib.hid hfin
                      clear hfin hn1 hn2 hn3 ho1 ho2 ho3 hg1 hg8 hg9 hg6 hg7 hR6 hR7 hx1 hx2
                      go_wp2_with fail
                      go_meet
                      exact Hfin.out
                    · obtain rfl : a = ct := by omega
                      go_region_held3 (fun _ => True) (first | trivial | go_keep)
                        ((first
                          | (refine step_append_own (by rfl) (.tmp 68) (.tmp 71) 23 (by rfl) wy.heap.size 3 i0 (.int .i64 0) 1 8 Try.underlying23 hi hz0 hz1 hz2 rfl (by decide) _ 0 [] (by rfl) ((World.ownsRow_lit (base := wy.heap.size) wy #[] 0 (Nat.le_refl _) (by simp [maxLen]) rfl).drew) ⟨gt, 0, none⟩ a a (ints d.times) (by rfl) HL1.out HN1.out (ints_one _) (by unfold maxLen; omega) (by omega) (by simp) ?_; intro v1 w5 ho1 hg1 hn1; have G1 := Lib.hid (gs (ga wy _ (some g)) hg1 (fun r e => by cases e; exact Nat.le_refl _)); have hR5 := Lib.hid (rd_gs (HyR.out.kept (ga wy _ none) (fun k hk => by cases hk)) hg1 hgy (fun r e => by cases e; exact Nat.le_refl _)))
                          | (go_at_call 24; (with_reducible refine (pick_any g Z 3 w5 hZ1 (by decide) (by decide) hR5.out).mono ?_); rintro ee w6 ⟨x1, rfl, hx1, hR6, hg6⟩; have hx10 := hx1.1; have hx11 := hx1.2.1 (by decide); have G2 := Lib.hid (grownBy_trans G1.out hg6); have ho1a := Lib.hid (own_rd (own0 ho1) hg6 hgy); have hR6' := Lib.hid hR6; have q1 : IntKind.i64.wrap (1 + x1) = 1 + x1 := IntWalk.i64_in _ (by omega))
                          | (go_at_call 24; (with_reducible refine (pick_any g (Z + 1) 60 w6 hZ2 (by decide) (by decide) hR6'.out).mono ?_); rintro ee w7 ⟨x2, rfl, hx2, hR7, hg7⟩; have hx20 := hx2.1; have hx21 := hx2.2.1 (by decide); have G3 := Lib.hid (grownBy_trans G2.out hg7); have ho1b := Lib.hid (own_rd ho1a.out hg7 hgy); have hR7' := Lib.hid hR7; have hs7 : wy.heap.size ≤ w7.heap.size := G3.out.size; have hd0 : 0 ≤ x2 / 59 := Int.ediv_nonneg hx20 (by decide); have hd1 : x2 / 59 ≤ 1 := div59 hx21; have q2 : x2.tdiv 59 = x2 / 59 := Int.tdiv_eq_ediv_of_nonneg hx20; have q3 : IntKind.i64.wrap (x2 / 59) = x2 / 59 := IntWalk.i64_in _ (by omega); have q4 : IntKind.i64.wrap (x2 / 59 * 60) = x2 / 59 * 60 := IntWalk.i64_in _ (by omega); have q5 : IntKind.i64.wrap (1 + x1 + x2 / 59 * 60) = 1 + x1 + x2 / 59 * 60 := IntWalk.i64_in _ (by omega))
                          | (refine step_append_own (by rfl) (.tmp 72) (.tmp 81) 23 (by rfl) wy.heap.size 3 i0 (.int .i64 0) 1 8 Try.underlying23 hi hz0 hz1 hz2 rfl (by decide) _ a (ints d.times) (by rfl) (ho1b.out.alloc _) ⟨w7.heap.size, 0, none⟩ 1 1 [.int .i64 (1 + x1 + x2 / 59 * 60)] (by rfl) (by rfl) (cell_one_new _ _ _) (ints_oneCell _ [_]) (by unfold maxLen; omega) (by omega) (by simp; omega) ?_; intro v2 w8 ho2 hg8 hn2; have G8 := Lib.hid (gs (gs G3.out (World.grownBy_alloc w7 _ none) (fun r e => by cases e)) hg8 (fun r e => (ho1b.out.lt r e).1)); have hs8 : wy.heap.size ≤ w8.heap.size := G8.out.size; have Ho2 := Lib.hid ho2)
                          | (refine step_append_own (by rfl) (.tmp 82) (.tmp 85) 23 (by rfl) wy.heap.size 3 i0 (.int .i64 0) 1 8 Try.underlying23 hi hz0 hz1 hz2 rfl (by decide) _ (a + 1) (ints d.times ++ [.int .i64 (1 + x1 + x2 / 59 * 60)]) (by rfl) Ho2.out _ 0 0 [] (by rfl) (by rfl) no_news (by simp) (by unfold maxLen; omega) (by omega) (by omega) ?_; intro v3 w9 ho3 hg9 hn3; have G9 := Lib.hid (gs G8.out hg9 (fun r e => (Ho2.out.lt r e).1)); have hR9 := Lib.hid (rd_gs (rd_gs (hR7'.out.kept (World.grownBy_alloc w7 _ none) (fun k hk => by cases hk)) hg8 hgy (fun r e => (ho1b.out.lt r e).1)) hg9 hgy (fun r e => (Ho2.out.lt r e).1)); have Ho3 := Lib.hid ho3)
                          | fail))
                      obtain ⟨g2, c2, rfl⟩ := Joins.ownsRow_form Ho3.out (by omega)
                      have hfin : TimesRel wy g Z (t.cnt + 1) d u e (.slice (some ⟨g2, 0, none⟩) (a + 1 + 0) c2) w9 := by
                        refine ⟨1 + x1 + x2 / 59 * 60, g2, c2, by omega, by omega, by rw [show a + 1 + 0 = t.cnt + 1 by omega], ?_, hR9.out, G9.out⟩
                        have h1 := Ho3.out
                        rw [show a + 1 + 0 = t.cnt + 1 by omega] at h1 ⊢
                        rw [T.ins_times]
                        have hu0 : u = .z := T.cnt_zero (by have := Hct.out; omega)
                        rw [hu0]
                        simpa [ints, T.times] using h1
                      have Hfin := Lib.hid hfin
                      clear hfin hn1 hn2 hn3 ho1 ho2 ho3 hg1 hg8 hg9 hg6 hg7 hR6 hR7 hx1 hx2
                      go_wp2_with fail
                      go_meet
                      exact Hfin.out
                  case rest =>
                    obtain ⟨xx, g5, c5, hx0, hx1, rfl, ho9, hr9, hg9⟩ := hcut
                    go_step
                    obtain ⟨w9, rfl⟩ : ∃ w9 : World, w9 = wc := ⟨_, rfl⟩
                    have H9 := Lib.hid ho9
                    have R9 := Lib.hid hr9
                    have G9 := Lib.hid hg9
                    have h9s : wy.heap.size ≤ w9.heap.size := hg9.size
                    have H96 := Lib.hid (own_rd HyO6.out hg9 hgl)
                    have H9E := Lib.hid (HyE.out.grow hg9 (fun k hk => .inl (by cases hk; exact Nat.le_refl _)))
                    have H9X := Lib.hid (HyX.out.grow hg9 (fun hk => by cases hk; omega))
                    have H90 := Lib.hid (grownBy_trans Hy0.out hg9)
                    have hg5 : wy.heap.size ≤ g5 := (ho9.lt g5 rfl).1
                    have H9F := Lib.hid (HyE.out.far_new hg5)
                    clear ho9 hr9 hg9 HyR HyO5
                    go_upto_region 17 with fail
                    have hce1 : t.cnt ≤ ce := own_cap H96.out
                    have hesl : es.length = t.cnt := by have := H96.out.1; omega
                    have HEl := Lib.hid (show (es.take a).length = a * 1 by rw [List.length_take]; omega)
                    have HEd := Lib.hid (show (es.drop a).length = (t.cnt - a) * 1 by rw [List.length_drop]; omega)
                    have HEn := Lib.hid (show ∀ j u, (es.take a)[j]? = some u → (w9.alloc (.cells #[] 23)).drew.cell? ((⟨ge, 0, none⟩ : Addr).add j) = some u from es_front H96.out)
                    have HEn2 := Lib.hid (fun (o : Obj) => show ∀ j u, (es.take a)[j]? = some u → ((w9.alloc (.cells #[] 23)).drew.alloc o).cell? ((⟨ge, 0, none⟩ : Addr).add j) = some u from es_front2 H96.out)
                    have HEn3 := Lib.hid (fun (o : Obj) => show ∀ j u, (es.take a)[j]? = some u → ((w9.alloc o).drew.alloc (.cells #[] 23)).cell? ((⟨ge, 0, none⟩ : Addr).add j) = some u from es_front2 H96.out)
                    have HB2 := Lib.hid (fun (W : World) (hG : w9.grownBy W none) => es_back (a := a) H96.out hG)
                    have HEo1 := Lib.hid (show ∀ u ∈ es.take a, u.oneCell' = true from fun u hu => H9E.out.one u (List.mem_of_mem_take hu))
                    have HEo2 := Lib.hid (show ∀ u ∈ es.drop a, u.oneCell' = true from fun u hu => H9E.out.one u (List.mem_of_mem_drop hu))
                    have HEsl := Lib.hid hesl
                    clear hesl
                    have hi1 : (0 : Int) ≤ (a : Int) := by omega
                    have hi2 : (a : Int) ≤ (ce : Int) := by omega
                    have hi3 : a ≤ ce := by omega
                    have hi4 : (a : Int) ≤ (t.cnt : Int) := by omega
                    have hi5 : (t.cnt : Int) ≤ (ce : Int) := by omega
                    by_cases hcap : a < ce
                    · have hi6 : (a : Int) < (ce : Int) := by omega
                      have hi7 : ¬ (ce : Int) = (a : Int) := by omega
                      have hi8 : ¬ ce = a := by omega
                      go_region_held3 (fun _ => True) (first | trivial | go_keep)
                        ((first
                        | (refine step_append_own (by rfl) (.tmp 87) (.tmp 90) 71 (by rfl) w9.heap.size 23 j0 (.slice none 0 0) 1 24 Try.underlying71 hj hy0 hy1 hy2 rfl (by decide) _ 0 [] (by rfl) ((World.ownsRow_lit (base := w9.heap.size) w9 #[] 0 (Nat.le_refl _) (by simp [maxLen]) rfl).drew) ⟨ge, 0, none⟩ a ce (es.take a) (by rfl) HEl.out HEn.out HEo1.out (by unfold maxLen; omega) (by omega) (by simp) ?_; intro v4 wa hoa hga hna; have GA := Lib.hid (gn (ga w9 _ none) hga (fun r e => by cases e; exact Nat.le_refl _)); have Hoa := Lib.hid (own0 hoa); have hsa : w9.heap.size ≤ wa.heap.size := GA.out.size)
                        | (refine step_append_own (by rfl) (.tmp 87) (.tmp 90) 71 (by rfl) w9.heap.size 23 j0 (.slice none 0 0) 1 24 Try.underlying71 hj hy0 hy1 hy2 rfl (by decide) _ 0 [] (by rfl) ((World.ownsRow_lit (base := w9.heap.size) w9 #[] 0 (Nat.le_refl _) (by simp [maxLen]) rfl).drew.alloc _) ⟨ge, 0, none⟩ a ce (es.take a) (by rfl) HEl.out (HEn2.out _) HEo1.out (by unfold maxLen; omega) (by omega) (by simp <;> omega) ?_; intro v4 wa hoa hga hna; have GA := Lib.hid (gn (gn (ga w9 _ none) (World.grownBy_alloc _ _ none) (fun r e => by cases e)) hga (fun r e => by cases e; exact Nat.le_refl _)); have HV := Lib.hid (v_kept2 hga); have Hoa := Lib.hid (own0 hoa); have hsa : w9.heap.size ≤ wa.heap.size := GA.out.size)
                        | (refine step_append_own (by rfl) (.tmp 87) (.tmp 90) 71 (by rfl) w9.heap.size 23 j0 (.slice none 0 0) 1 24 Try.underlying71 hj hy0 hy1 hy2 rfl (by decide) _ 0 [] (by rfl) (lit_past w9 (.cells #[.slice (some ⟨gx, 0, none⟩) e.enc.length cx] 23) 23) ⟨ge, 0, none⟩ a ce (es.take a) (by rfl) HEl.out (HEn3.out _) HEo1.out (by unfold maxLen; omega) (by omega) (by simp <;> omega) ?_; intro v4 wa hoa hga hna; have GA := Lib.hid (gn (gn (World.grownBy_alloc w9 _ none) (ga (w9.alloc _) _ none) (fun r e => by cases e)) hga (fun r e => by cases e; simp)); have HV := Lib.hid (v_kept3 hga); have Hoa := Lib.hid (own0 hoa); have hsa : w9.heap.size ≤ wa.heap.size := GA.out.size)
                        | (refine step_append_own (by rfl) (.tmp 91) (.tmp 93) 71 (by rfl) w9.heap.size 23 j0 (.slice none 0 0) 1 24 Try.underlying71 hj hy0 hy1 hy2 rfl (by decide) _ a (es.take a) (by rfl) (Hoa.out.alloc _) ⟨wa.heap.size, 0, none⟩ 1 1 [.slice (some ⟨gx, 0, none⟩) e.enc.length cx] (by rfl) (by rfl) (cell_one_new _ _ _) (slice_oneCell _ _ _) (by unfold maxLen; omega) (by omega) (by simp; omega) ?_; intro v5 wb hob hgb hnb; have GB := Lib.hid (gn (gn GA.out (World.grownBy_alloc wa _ none) (fun r e => by cases e)) hgb (fun r e => (Hoa.out.lt r e).1)); have Hob := Lib.hid hob; have hsb : w9.heap.size ≤ wb.heap.size := GB.out.size)
                        | (refine step_append_own (by rfl) (.tmp 91) (.tmp 93) 71 (by rfl) w9.heap.size 23 j0 (.slice none 0 0) 1 24 Try.underlying71 hj hy0 hy1 hy2 rfl (by decide) _ a (es.take a) (by rfl) Hoa.out ⟨_, 0, none⟩ 1 1 [.slice (some ⟨gx, 0, none⟩) e.enc.length cx] (by rfl) (by rfl) HV.out (slice_oneCell _ _ _) (by unfold maxLen; omega) (by omega) (by omega) ?_; intro v5 wb hob hgb hnb; have GB := Lib.hid (gn GA.out hgb (fun r e => (Hoa.out.lt r e).1)); have Hob := Lib.hid hob; have hsb : w9.heap.size ≤ wb.heap.size := GB.out.size)
                        | (refine step_append_own (by rfl) (.tmp 94) (.tmp 97) 71 (by rfl) w9.heap.size 23 j0 (.slice none 0 0) 1 24 Try.underlying71 hj hy0 hy1 hy2 rfl (by decide) _ (a + 1) _ (by rfl) Hob.out ⟨ge, a, none⟩ (t.cnt - a) (ce - a) (es.drop a) (by rfl) HEd.out (HB2.out _ GB.out) HEo2.out (by unfold maxLen; omega) (by omega) (by omega) ?_; intro v6 wd hoc hgc hnc; have GC := Lib.hid (gn GB.out hgc (fun r e => (Hob.out.lt r e).1)); have Hoc := Lib.hid hoc)
                        | fail))
                      all_goals
                        obtain ⟨g6, c6, rfl⟩ := Joins.ownsRow_form Hoc.out (by omega)
                        have e6 : a + 1 + (t.cnt - a) = t.cnt + 1 := by omega
                        have hfin : RawRel w g P (Lb dp) (Cb dp) (gk - 1) (.slice (some ⟨g5, 0, none⟩) (t.cnt + 1) c5) (.slice (some ⟨g6, 0, none⟩) (t.cnt + 1) c6) (.int .i64 (gk - 1 : Nat)) wd := by
                          refine raw_in (d := d) (u := u) (e := e) (x := xx) (es := es) (gx := gx) (cx := cx) (t := t) (by omega) htj rfl Hlen.out hle Htm.out HU.out.1 hx0 hx1 hys (Nat.le_trans hys h9s)
                            (H9.out.kept GC.out (.inr (by simp [Value.ownBlock]))) ?_ (H9E.out.grow GC.out (fun k hk => by cases hk)) hgx (H9X.out.grow GC.out (by simp)) hcx hcm H9F.out (by omega) ?_ (grownBy_trans H90.out (gsome GC.out (some g)))
                          · have h1 := Hoc.out
                            rw [e6] at h1
                            rw [HU.out.2]
                            simpa using h1
                          · exact (R9.out.kept GC.out (fun k hk => by cases hk)).mono (by rw [HZ.out, HQe.out, Nat.add_mul]; omega)
                        have Hfin := Lib.hid hfin
                        have E6 := Lib.hid e6
                        clear hfin e6 hna hnb hnc hoa hob hoc hga hgb hgc
                        go_wp2_with fail
                        go_roundg (gk - 1)
                        case measure => omega
                        case rel =>
                          have e1 : ((gk - 1 : Nat) : Int) = (gk : Int) - 1 := by omega
                          have := Hfin.out
                          rw [e1] at this
                          rw [E6.out]
                          exact this
                    · obtain rfl : a = ce := by omega
                      go_region_held3 (fun _ => True) (first | trivial | go_keep)
                        ((first
                        | (refine step_append_own (by rfl) (.tmp 87) (.tmp 90) 71 (by rfl) w9.heap.size 23 j0 (.slice none 0 0) 1 24 Try.underlying71 hj hy0 hy1 hy2 rfl (by decide) _ 0 [] (by rfl) ((World.ownsRow_lit (base := w9.heap.size) w9 #[] 0 (Nat.le_refl _) (by simp [maxLen]) rfl).drew) ⟨ge, 0, none⟩ a a (es.take a) (by rfl) HEl.out HEn.out HEo1.out (by unfold maxLen; omega) (by omega) (by simp) ?_; intro v4 wa hoa hga hna; have GA := Lib.hid (gn (ga w9 _ none) hga (fun r e => by cases e; exact Nat.le_refl _)); have Hoa := Lib.hid (own0 hoa); have hsa : w9.heap.size ≤ wa.heap.size := GA.out.size)
                        | (refine step_append_own (by rfl) (.tmp 87) (.tmp 90) 71 (by rfl) w9.heap.size 23 j0 (.slice none 0 0) 1 24 Try.underlying71 hj hy0 hy1 hy2 rfl (by decide) _ 0 [] (by rfl) ((World.ownsRow_lit (base := w9.heap.size) w9 #[] 0 (Nat.le_refl _) (by simp [maxLen]) rfl).drew.alloc _) ⟨ge, 0, none⟩ a a (es.take a) (by rfl) HEl.out (HEn2.out _) HEo1.out (by unfold maxLen; omega) (by omega) (by simp <;> omega) ?_; intro v4 wa hoa hga hna; have GA := Lib.hid (gn (gn (ga w9 _ none) (World.grownBy_alloc _ _ none) (fun r e => by cases e)) hga (fun r e => by cases e; exact Nat.le_refl _)); have HV := Lib.hid (v_kept2 hga); have Hoa := Lib.hid (own0 hoa); have hsa : w9.heap.size ≤ wa.heap.size := GA.out.size)
                        | (refine step_append_own (by rfl) (.tmp 87) (.tmp 90) 71 (by rfl) w9.heap.size 23 j0 (.slice none 0 0) 1 24 Try.underlying71 hj hy0 hy1 hy2 rfl (by decide) _ 0 [] (by rfl) (lit_past w9 (.cells #[.slice (some ⟨gx, 0, none⟩) e.enc.length cx] 23) 23) ⟨ge, 0, none⟩ a a (es.take a) (by rfl) HEl.out (HEn3.out _) HEo1.out (by unfold maxLen; omega) (by omega) (by simp <;> omega) ?_; intro v4 wa hoa hga hna; have GA := Lib.hid (gn (gn (World.grownBy_alloc w9 _ none) (ga (w9.alloc _) _ none) (fun r e => by cases e)) hga (fun r e => by cases e; simp)); have HV := Lib.hid (v_kept3 hga); have Hoa := Lib.hid (own0 hoa); have hsa : w9.heap.size ≤ wa.heap.size := GA.out.size)
                        | (refine step_append_own (by rfl) (.tmp 91) (.tmp 93) 71 (by rfl) w9.heap.size 23 j0 (.slice none 0 0) 1 24 Try.underlying71 hj hy0 hy1 hy2 rfl (by decide) _ a (es.take a) (by rfl) (Hoa.out.alloc _) ⟨wa.heap.size, 0, none⟩ 1 1 [.slice (some ⟨gx, 0, none⟩) e.enc.length cx] (by rfl) (by rfl) (cell_one_new _ _ _) (slice_oneCell _ _ _) (by unfold maxLen; omega) (by omega) (by simp; omega) ?_; intro v5 wb hob hgb hnb; have GB := Lib.hid (gn (gn GA.out (World.grownBy_alloc wa _ none) (fun r e => by cases e)) hgb (fun r e => (Hoa.out.lt r e).1)); have Hob := Lib.hid hob; have hsb : w9.heap.size ≤ wb.heap.size := GB.out.size)
                        | (refine step_append_own (by rfl) (.tmp 91) (.tmp 93) 71 (by rfl) w9.heap.size 23 j0 (.slice none 0 0) 1 24 Try.underlying71 hj hy0 hy1 hy2 rfl (by decide) _ a (es.take a) (by rfl) Hoa.out ⟨_, 0, none⟩ 1 1 [.slice (some ⟨gx, 0, none⟩) e.enc.length cx] (by rfl) (by rfl) HV.out (slice_oneCell _ _ _) (by unfold maxLen; omega) (by omega) (by omega) ?_; intro v5 wb hob hgb hnb; have GB := Lib.hid (gn GA.out hgb (fun r e => (Hoa.out.lt r e).1)); have Hob := Lib.hid hob; have hsb : w9.heap.size ≤ wb.heap.size := GB.out.size)
                        | (refine step_append_own (by rfl) (.tmp 94) (.tmp 97) 71 (by rfl) w9.heap.size 23 j0 (.slice none 0 0) 1 24 Try.underlying71 hj hy0 hy1 hy2 rfl (by decide) _ (a + 1) _ (by rfl) Hob.out _ 0 0 [] (by rfl) (by rfl) no_news (by simp) (by unfold maxLen; omega) (by omega) (by omega) ?_; intro v6 wd hoc hgc hnc; have GC := Lib.hid (gn GB.out hgc (fun r e => (Hob.out.lt r e).1)); have Hoc := Lib.hid hoc)
                        | fail))
                      all_goals
                        obtain ⟨g6, c6, rfl⟩ := Joins.ownsRow_form Hoc.out (by omega)
                        have e6 : a + 1 + 0 = t.cnt + 1 := by omega
                        have hfin : RawRel w g P (Lb dp) (Cb dp) (gk - 1) (.slice (some ⟨g5, 0, none⟩) (t.cnt + 1) c5) (.slice (some ⟨g6, 0, none⟩) (t.cnt + 1) c6) (.int .i64 (gk - 1 : Nat)) wd := by
                          refine raw_in (d := d) (u := u) (e := e) (x := xx) (es := es) (gx := gx) (cx := cx) (t := t) (by omega) htj rfl Hlen.out hle Htm.out HU.out.1 hx0 hx1 hys (Nat.le_trans hys h9s)
                            (H9.out.kept GC.out (.inr (by simp [Value.ownBlock]))) ?_ (H9E.out.grow GC.out (fun k hk => by cases hk)) hgx (H9X.out.grow GC.out (by simp)) hcx hcm H9F.out (by omega) ?_ (grownBy_trans H90.out (gsome GC.out (some g)))
                          · have h1 := Hoc.out
                            rw [e6] at h1
                            rw [HU.out.2]
                            have hd0 : es.drop a = [] := List.drop_of_length_le (by have := HEsl.out; omega)
                            rw [hd0]
                            simpa using h1
                          · exact (R9.out.kept GC.out (fun k hk => by cases hk)).mono (by rw [HZ.out, HQe.out, Nat.add_mul]; omega)
                        have Hfin := Lib.hid hfin
                        have E6 := Lib.hid e6
                        clear hfin e6 hna hnb hnc hoa hob hoc hga hgb hgc
                        go_wp2_with fail
                        go_roundg (gk - 1)
                        case measure => omega
                        case rel =>
                          have e1 : ((gk - 1 : Nat) : Int) = (gk : Int) - 1 := by omega
                          have := Hfin.out
                          rw [e1] at this
                          rw [E6.out]
                          exact this
        · have hk0' : gk = 0 := by omega
          subst hk0'
          have hsl := Lib.hid (Sl.of_own ho5)
          have hex := Lib.hid (Ex.of_own ho6 hEG.ec rfl)
          have hl1 : t.enc.length ≤ 1000000000000 := by
            have h1 := Hlen.out
            have : j * (1 + Lb dp) ≤ 3 * (1 + Lb dp) := Nat.mul_le_mul_right _ (by omega)
            omega
          have k4 := Lib.hid (l1Make_any (some ⟨gt, 0, none⟩) (some ⟨ge, 0, none⟩) t.cnt ct ce t wr hl1 hex.out hsl.out)
          have Hgr := Lib.hid hgr
          have Hrd3 := Lib.hid hrd
          clear ho5 ho6 hEG hgr hrd hl1 hk
          go_wp2_with fail
          refine (k4.out).mono ?_
          rintro ee w5 ⟨a', c', rfl, ho, hb⟩
          obtain ⟨g', cq, hv⟩ := Joins.ownsRow_form ho (by rw [T.enc_len]; omega)
          simp only [Value.slice.injEq] at hv
          obtain ⟨rfl, _, rfl⟩ := hv
          have Ho := Lib.hid ho
          have Hb := Lib.hid hb
          clear ho hb
          go_wp2_with fail
          go_ret
          refine ⟨t, g', c', rfl, Joins.ownsRow_le Ho.out Hgr.out.size, ?_, (Hrd3.out.kept (below_grown Hb.out none) (fun k hk => by cases hk)).mono ?_, grownBy_step Hgr.out (below_grown Hb.out none) (fun k hk => by cases hk)⟩
          · have h1 := Hlen.out
            have : j * (1 + Lb dp) ≤ 3 * (1 + Lb dp) := Nat.mul_le_mul_right _ (by omega)
            rw [HLe.out]
            omega
          · have : j * (4 + Cb dp) ≤ 3 * (4 + Cb dp) := Nat.mul_le_mul_right _ (by omega)
            rw [HCe.out]
            omega

end Go.Proofs.Ytlbaelehmoidpaa

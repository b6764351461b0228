/- A head is cut off a node: (*node).cut. -/
import Derived.Test.YtdcgcohfbcdnnaaTreeR
import Derived.Test.YtdcgcohfbcdnnaaHydRep
namespace Go.Proofs.Ytdcgcohfbcdnnaa
set_option maxRecDepth 100000
open Go.RowKit

/-- Outside of the blocks from p to m nothing has turned. -/
structure Apart (p m : Nat) (w w' : World) : Prop where
  os : w'.os = w.os
  tape : w'.tape = w.tape
  output : w'.output = w.output
  size : w.heap.size ≤ w'.heap.size
  block : ∀ k, k < w.heap.size → (k < p ∨ m ≤ k) → w'.heap[k]? = w.heap[k]?

/-- What can be read of nodes that lie in blocks of S. -/
def RS (w : World) (S : Nat → Prop) : H → List Value → Prop
  | .z, vs => vs = []
  | .c k r, vs => ∃ (p : Nat) (ao : Option Addr) (c : Nat) (us vs' : List Value), vs = .pointer (some ⟨p, 0, none⟩) :: vs' ∧ S p ∧ w.cell? ⟨p, 0, none⟩ = some (.slice ao k.cnt c) ∧
      (0 < k.cnt → ∃ g, ao = some ⟨g, 0, none⟩ ∧ S g ∧ g < w.heap.size ∧ ∀ j, j < k.cnt → w.cell? ⟨g, j, none⟩ = us[j]?) ∧ RS w S k us ∧ RS w S r vs'
def RSn (w : World) (S : Nat → Prop) (f : H) (p : Nat) : Prop :=
  ∃ (ao : Option Addr) (c : Nat) (us : List Value), S p ∧ w.cell? ⟨p, 0, none⟩ = some (.slice ao f.cnt c) ∧ (0 < f.cnt → ∃ g, ao = some ⟨g, 0, none⟩ ∧ S g ∧ g < w.heap.size ∧ ∀ j, j < f.cnt → w.cell? ⟨g, j, none⟩ = us[j]?) ∧ RS w S f us

theorem RS.cons {w : World} {S : Nat → Prop} {k r : H} {vs : List Value} : RS w S (.c k r) vs ↔ ∃ (p : Nat) (vs' : List Value), vs = .pointer (some ⟨p, 0, none⟩) :: vs' ∧ RSn w S k p ∧ RS w S r vs' := by
  constructor
  · rintro ⟨p, ao, c, us, vs', h1, h2, h3, h4, h5, h6⟩; exact ⟨p, vs', h1, ⟨ao, c, us, h2, h3, h4, h5⟩, h6⟩
  · rintro ⟨p, vs', h1, ⟨ao, c, us, h2, h3, h4, h5⟩, h6⟩; exact ⟨p, ao, c, us, vs', h1, h2, h3, h4, h5, h6⟩

theorem RS.length {w : World} {S : Nat → Prop} {f : H} {vs : List Value} (h : RS w S f vs) : vs.length = f.cnt := by
  induction f generalizing vs with
  | z => simp only [RS] at h; subst h; rfl
  | c k r _ ih =>
    obtain ⟨p, vs', rfl, _, h1⟩ := RS.cons.1 h
    simp [H.cnt, ih h1]

theorem RS.move {w w' : World} {S S' : Nat → Prop} (hs : w.heap.size ≤ w'.heap.size) (hS : ∀ b, S b → S' b) (hb : ∀ b, b < w.heap.size → S b → w'.heap[b]? = w.heap[b]?) {f : H} {vs : List Value} (h : RS w S f vs) : RS w' S' f vs := by
  induction f generalizing vs with
  | z => exact h
  | c k r ihk ihr =>
    obtain ⟨p, ao, c, us, vs', h1, h2, h3, h4, h5, h6⟩ := h
    refine ⟨p, ao, c, us, vs', h1, hS p h2, ?_, fun hp => ?_, ihk h5, ihr h6⟩
    · rw [World.cell?_of_block (a := ⟨p, 0, none⟩) (hb p (World.block_lt_of_cell? w _ h3) h2)]; exact h3
    · obtain ⟨g, q1, q2, q3, q4⟩ := h4 hp
      exact ⟨g, q1, hS g q2, Nat.lt_of_lt_of_le q3 hs, fun j hj => (World.cell?_of_block (a := ⟨g, j, none⟩) (hb g q3 q2)).trans (q4 j hj)⟩

theorem RSn.move {w w' : World} {S S' : Nat → Prop} (hs : w.heap.size ≤ w'.heap.size) (hS : ∀ b, S b → S' b) (hb : ∀ b, b < w.heap.size → S b → w'.heap[b]? = w.heap[b]?) {f : H} {p : Nat} (h : RSn w S f p) : RSn w' S' f p := by
  have h1 : RS w S (.c f .z) [.pointer (some ⟨p, 0, none⟩)] := RS.cons.2 ⟨p, [], rfl, h, rfl⟩
  obtain ⟨p', vs', h2, h3, _⟩ := RS.cons.1 (h1.move hs hS hb)
  simp only [List.cons.injEq, Value.pointer.injEq, Option.some.injEq, Addr.mk.injEq, and_true] at h2
  rw [h2.1]
  exact h3

theorem RS.rk {w : World} {S : Nat → Prop} {f : H} {vs : List Value} (h : RS w S f vs) : RK w f vs := by
  induction f generalizing vs with
  | z => exact h
  | c k r ihk ihr =>
    obtain ⟨p, ao, c, us, vs', h1, h2, h3, h4, h5, h6⟩ := h
    refine ⟨p, ao, c, us, vs', h1, h3, fun hp => ?_, ihk h5, ihr h6⟩
    obtain ⟨g, q1, _, q3, q4⟩ := h4 hp
    exact ⟨g, q1, q3, q4⟩
theorem RSn.rnd {w : World} {S : Nat → Prop} {f : H} {p : Nat} (h : RSn w S f p) : RNd w f p := by
  obtain ⟨ao, c, us, h2, h3, h4, h5⟩ := h
  refine ⟨ao, c, us, h3, fun hp => ?_, h5.rk⟩
  obtain ⟨g, q1, _, q3, q4⟩ := h4 hp
  exact ⟨g, q1, q3, q4⟩

theorem Kids.rs {w : World} {S : Nat → Prop} {f : H} {a : Option Nat} {vs : List Value} {lo hi : Nat} (h : Kids w f a vs lo hi) (hS : ∀ b, lo ≤ b → b < hi → a ≠ some b → S b) : RS w S f vs := by
  induction f generalizing a vs lo hi with
  | z => exact h
  | c k r ihk ihr =>
    obtain ⟨p, m, ao, c, us, vs', h1, h2, h3, h4, h5, h6, h7, h8, h9, h10⟩ := h
    have hin : ∀ b, p ≤ b → b < m → S b := fun b q1 q2 => hS b (by omega) (by omega) (fun e => by have := h5 b e; omega)
    refine ⟨p, ao, c, us, vs', h1, hin p (Nat.le_refl _) h3, Joins.cell_of_block h6 0, fun hp => ?_, ihk h9 (fun b q1 q2 _ => hin b (by omega) q2), ihr h10 (fun b q1 q2 q3 => hS b (by omega) q2 q3)⟩
    obtain ⟨g, e1, e2, e3⟩ := own_cells h7 hp
    have hg : (Value.slice ao k.cnt c).ownBlock = some g := by rw [e1]; rfl
    exact ⟨g, e1, hin g (by have := (h7.lt g hg).1; omega) (h8 g hg), e2, e3⟩

/-- The branch number i, and those ahead of it and behind it. -/
theorem Kids.split {w : World} {t d k r : H} {a : Option Nat} {vs : List Value} {lo hi i : Nat} (h : Kids w t a vs lo hi) (h1 : d.app (.c k r) = t) (h2 : d.cnt = i) :
    ∃ q mq, vs[i]? = some (.pointer (some ⟨q, 0, none⟩)) ∧ lo ≤ q ∧ q < mq ∧ mq ≤ hi ∧ (∀ b, a = some b → b < q ∨ mq ≤ b) ∧ Kids w d a (vs.take i) lo q ∧ Nd w k q mq ∧ Kids w r a (vs.drop (i + 1)) mq hi := by
  induction d generalizing t vs lo i with
  | z =>
    subst h1; subst h2
    obtain ⟨p, m, vs', rfl, q1, q2, q3, q4, q5⟩ := Kids.cons.1 h
    have : p < m := by obtain ⟨_, _, _, h7, _⟩ := q4; exact h7
    exact ⟨p, m, rfl, q1, this, q2, q3, rfl, q4, q5⟩
  | c e g _ ih =>
    subst h1; subst h2
    obtain ⟨p, m, vs', rfl, q1, q2, q3, q4, q5⟩ := Kids.cons.1 h
    obtain ⟨p', m', k1, k2, k3, k4, k5, k6, k7, k8⟩ := ih q5 rfl rfl
    have : p < m := by obtain ⟨_, _, _, h7, _⟩ := q4; exact h7
    refine ⟨p', m', by simp only [H.cnt, List.getElem?_cons_succ]; exact k1, by omega, k3, k4, k5, ?_, k7, by simp only [H.cnt, List.drop_succ_cons]; exact k8⟩
    simp only [H.cnt, List.take_succ_cons]
    exact Kids.cons.2 ⟨p, m, _, rfl, q1, k2, q3, q4, k6⟩

theorem Kids.ptr {w : World} {f : H} {a : Option Nat} {vs : List Value} {lo hi : Nat} (h : Kids w f a vs lo hi) : ∀ u ∈ vs, ∃ q, u = .pointer (some ⟨q, 0, none⟩) := by
  induction f generalizing a vs lo hi with
  | z => simp only [Kids] at h; subst h; intro u hu; cases hu
  | c k r _ ihr =>
    obtain ⟨p, m, vs', rfl, _, _, _, _, h1⟩ := Kids.cons.1 h
    intro u hu
    rcases List.mem_cons.1 hu with rfl | hu
    · exact ⟨p, rfl⟩
    · exact ihr h1 u hu

theorem RS.app {w : World} {S : Nat → Prop} {d e : H} {us vs : List Value} (h : RS w S d us) (h' : RS w S e vs) : RS w S (d.app e) (us ++ vs) := by
  induction d generalizing us with
  | z => simp only [RS] at h; subst h; exact h'
  | c k r _ ih =>
    obtain ⟨p, us', rfl, h1, h2⟩ := RS.cons.1 h
    exact RS.cons.2 ⟨p, us' ++ vs, rfl, h1, ih h2⟩
theorem RS.rep {w : World} {S : Nat → Prop} {k r : H} {q : Nat} {vs : List Value} (hk : RSn w S k q) (hr : RS w S r vs) (n : Nat) : RS w S (H.rep n k r) (Rp n [.pointer (some ⟨q, 0, none⟩)] ++ vs) := by
  induction n with
  | zero => simpa [H.rep, Rp] using hr
  | succ n ih => exact RS.cons.2 ⟨q, _, rfl, hk, ih⟩

def CutS (w : World) (p m : Nat) : Nat → Prop := fun b => (p ≤ b ∧ b < m) ∨ w.heap.size ≤ b
def CutPost (w : World) (k : H × Bool) (p m : Nat) (e : Ending) (w' : World) : Prop := e = .returned (.bool k.2) ∧ RSn w' (CutS w p m) k.1 p ∧ Apart p m w w'

/-- The pointers of a row behind the other one. -/
theorem list_at {us : List Value} {f : Nat → Value} {K : Nat} (hl : us.length = K) (hf : ∀ j, j < K → us[j]? = some (f j)) (ls : List Value) (F : Nat → Value) (n i m : Nat) (hn : n = K - 1 + m) (hi : i < K) (hls : ls.length = m)
    (hF : ∀ j, j < n → F j = if j < i then f j else if j < i + m then ls[j - i]?.getD default else f (j + 1 - m)) : ∀ j, j < n → some (F j) = (us.take i ++ (ls ++ us.drop (i + 1)))[j]? := by
  intro j hj
  have htl : (us.take i).length = i := by rw [List.length_take]; omega
  rw [hF j hj]
  by_cases h1 : j < i
  · rw [if_pos h1, List.getElem?_append_left (by omega), List.getElem?_take, if_pos h1, hf j (by omega)]
  · rw [if_neg h1, List.getElem?_append_right (by omega), htl]
    by_cases h2 : j < i + m
    · rw [if_pos h2, List.getElem?_append_left (by omega), List.getElem?_eq_getElem (by omega)]
      rfl
    · rw [if_neg h2, List.getElem?_append_right (by omega), List.getElem?_drop, hls, show i + 1 + (j - i - m) = j + 1 - m by omega, hf _ (by omega)]

theorem kids_moved {w w' : World} {p m lo hi ga : Nat} {f : H} {vs : List Value} (h : Kids w f (some ga) vs lo hi) (hlo : p < lo) (hhi : hi ≤ m) (hs : w.heap.size ≤ w'.heap.size)
    (hb : ∀ b, b < w.heap.size → lo ≤ b → b < hi → b ≠ ga → w'.heap[b]? = w.heap[b]?) : RS w' (fun b => CutS w p m b ∧ b ≠ p) f vs :=
  (h.rs (S := fun b => lo ≤ b ∧ b < hi ∧ b ≠ ga) (fun b h1 h2 h3 => ⟨h1, h2, fun e => h3 (by rw [e])⟩)).move hs (fun b hb' => ⟨.inl ⟨by omega, by omega⟩, by omega⟩) (fun b h1 h2 => hb b h1 h2.1 h2.2.1 h2.2.2)

theorem Apart.mono {p m q mq : Nat} {w w' : World} (h : Apart q mq w w') (h1 : p ≤ q) (h2 : mq ≤ m) : Apart p m w w' := ⟨h.os, h.tape, h.output, h.size, fun k hk hp => h.block k hk (by omega)⟩
theorem Apart.grown {p m g : Nat} {w w2 w' : World} (h : Apart p m w w2) (hg : w2.grownBy w' (some g)) (h1 : p ≤ g) (h2 : g < m) : Apart p m w w' :=
  ⟨hg.os.trans h.os, hg.tape.trans h.tape, hg.output.trans h.output, Nat.le_trans h.size hg.size, fun k hk hp => (hg.block k (Nat.lt_of_lt_of_le hk h.size) (by simp; omega)).trans (h.block k hk hp)⟩
theorem Apart.new {p m : Nat} {w w2 w' : World} (h : Apart p m w w2) (hg : w2.grownBy w' none) : Apart p m w w' :=
  ⟨hg.os.trans h.os, hg.tape.trans h.tape, hg.output.trans h.output, Nat.le_trans h.size hg.size, fun k hk hp => (hg.block k (Nat.lt_of_lt_of_le hk h.size) (by simp)).trans (h.block k hk hp)⟩
theorem Apart.refl (p m : Nat) (w : World) : Apart p m w w := ⟨rfl, rfl, rfl, Nat.le_refl _, fun _ _ _ => rfl⟩

/-- The node's row is stored. -/
theorem cut_store {w w5 : World} {p m g c K : Nat} {t : H} {ls : List Value} {v0 : Value} (hpm : p < m) (ha : Apart p m w w5) (hp : w5.heap[p]? = some (.cells #[v0] 83 (0, 0))) (hK : K = t.cnt)
    (hg : CutS w p m g) (hgp : g ≠ p) (hgs : g < w5.heap.size) (hc : ∀ j, j < K → w5.cell? ⟨g, j, none⟩ = ls[j]?) (hr : RS w5 (fun b => CutS w p m b ∧ b ≠ p) t ls) (b : Bool) :
    CutPost w (t, b) p m (.returned (.bool b)) (w5.setCell ⟨p, 0, none⟩ (.slice (some ⟨g, 0, none⟩) K c)) := by
  have hps : p < w5.heap.size := (Array.getElem?_eq_some_iff.1 hp).1
  have hgr : w5.grownBy (w5.setCell ⟨p, 0, none⟩ (.slice (some ⟨g, 0, none⟩) K c)) (some p) := ⟨rfl, rfl, rfl, by simp [World.setCell], fun k _ hk => heap_setCell_other w5 ⟨p, 0, none⟩ k _ (fun e => hk (by simp [e]))⟩
  have hnb := Joins.block_setCell (i := 0) hp (.slice (some ⟨g, 0, none⟩) K c)
  have hcp : (w5.setCell ⟨p, 0, none⟩ (.slice (some ⟨g, 0, none⟩) K c)).cell? ⟨p, 0, none⟩ = some (.slice (some ⟨g, 0, none⟩) K c) := by
    rw [Joins.cell_of_block hnb]; rfl
  have hsame : ∀ b, b < w5.heap.size → b ≠ p → (w5.setCell ⟨p, 0, none⟩ (.slice (some ⟨g, 0, none⟩) K c)).heap[b]? = w5.heap[b]? := fun b hb hne => hgr.block b hb (by simp; exact hne)
  refine ⟨rfl, ⟨some ⟨g, 0, none⟩, c, ls, .inl ⟨Nat.le_refl _, hpm⟩, by rw [← hK]; exact hcp, fun _ => ⟨g, rfl, hg, Nat.lt_of_lt_of_le hgs hgr.size, fun j hj => ?_⟩, hr.move hgr.size (fun b hb => hb.1) (fun b h1 h2 => hsame b h1 h2.2)⟩, ha.grown hgr (Nat.le_refl _) hpm⟩
  rw [World.cell?_of_block (a := ⟨g, j, none⟩) (hsame g hgs hgp)]
  exact hc j (by rw [hK]; exact hj)

/-- slices.Repeat of one pointer. -/
theorem repeat_node (q n : Nat) (hn : 1 ≤ n) (hn9 : n ≤ 9) (w : World) :
    Calls Try.prog 76 #[.slice (some ⟨w.heap.size, 0, none⟩) 1 1, .int .i64 n] (w.alloc (.cells #[.pointer (some ⟨q, 0, none⟩)] 68)) fun e w' =>
      e = .returned (.slice (some ⟨w.heap.size + 1, 0, none⟩) n n) ∧ w'.heap[w.heap.size + 1]? = some (.cells (Rp n [.pointer (some ⟨q, 0, none⟩)]).toArray 68 (0, 0)) ∧ w.grownBy w' none := by
  have h := repeatP_any w.heap.size 0 1 1 n [.pointer (some ⟨q, 0, none⟩)] (w.alloc (.cells #[.pointer (some ⟨q, 0, none⟩)] 68)) rfl (Nat.le_refl _) hn (by omega) (by simp [Value.oneCell']) (cell_one_new _ _ _) (by simp)
  simp only [Nat.one_mul] at h
  have hs : (w.alloc (.cells #[.pointer (some ⟨q, 0, none⟩)] 68)).heap.size = w.heap.size + 1 := by simp
  rw [hs] at h
  refine h.mono ?_
  rintro e w' ⟨rfl, ho, hb⟩
  refine ⟨rfl, own_tight ho, hb.os, hb.tape, hb.output, ?_, fun k hk _ => ?_⟩
  · have := hb.size; omega
  · rw [hb.block k (by omega)]
    exact heap_alloc_old w _ hk

theorem cut_past' {n : Nat} {d k r f : H} {h hc hk x : Nat} (hf : H.cut n f h = (d.app (H.cut n (.c k r) hc).1, (H.cut n (.c k r) hc).2)) (hk' : H.heads k = (hk : Int)) (hx : hc = hk + x) :
    H.cut n f h = ((d.app (.c k .z)).app (H.cut n r x).1, (H.cut n r x).2) := by
  rw [hf, H.cut_past (.inr (by omega)), H.app_assoc, show ((hc : Nat) : Int) - H.heads k = (x : Int) by omega]
  rfl

set_option maxHeartbeats 4000000 in
theorem node_cut (n : Nat) (hn : 1 ≤ n) (hn9 : n ≤ 9) (N : Nat) : ∀ (f : H) (p m h : Nat) (w : World), f.body.length < N → f.body.length ≤ 1000 → h ≤ 1000 → Nd w f p m →
    Calls Try.prog 54 #[.pointer (some ⟨p, 0, none⟩), .int .i64 h, .int .i64 n] w (CutPost w (H.cut n f h) p m) := by
  induction N with
  | zero => intro f p m h w h; omega
  | succ N ih =>
    intro f p m h w hN hl hh hnd
    obtain ⟨ao, c, us, q1, q2, q3, q4, q5⟩ := hnd
    have hct := H.cnt_le f
    have xp : w.cell? ⟨p, 0, none⟩ = some (.slice ao f.cnt c) := Joins.cell_of_block q2 0
    have hps : p < w.heap.size := (Array.getElem?_eq_some_iff.1 q2).1
    have hself : RSn w (CutS w p m) f p := ⟨ao, c, us, .inl ⟨Nat.le_refl _, q1⟩, xp, fun hp => by
      obtain ⟨g, e1, e2, e3⟩ := own_cells q3 hp
      have hg : (Value.slice ao f.cnt c).ownBlock = some g := by rw [e1]; rfl
      exact ⟨g, e1, .inl ⟨by have := (q3.lt g hg).1; omega, q4 g hg⟩, e2, e3⟩, q5.rs (fun b h1 h2 _ => .inl ⟨by omega, h2⟩)⟩
    obtain ⟨K, hK⟩ : ∃ K, K = f.cnt := ⟨_, rfl⟩
    rw [← hK] at xp q2 q3 q4 q5
    have hK1 : K ≤ 1000 := by omega
    have IH := Lib.hid ih
    have HN := Lib.hid hN
    have HK := Lib.hid hK
    have Hl := Lib.hid hl
    have Hq2 := Lib.hid q2
    have Hq3 := Lib.hid q3
    have Hq4 := Lib.hid q4
    have Hq5 := Lib.hid q5
    have Hself := Lib.hid hself
    clear ih hN hK hl q2 q3 q4 q5 hct hself
    go_enter Try.func54, Try.ntmps54
    go_wp2_with fail
    go_loop [1, 16] (fun v1 v16 => ∃ (i hc : Nat) (d u : H), Hid (d.app u = f ∧ d.cnt = i ∧ H.cut n f h = (d.app (H.cut n u hc).1, (H.cut n u hc).2)) ∧ hc ≤ 1000 ∧ i + u.cnt = K ∧ v1 = .int .i64 hc ∧ v16 = .int .i64 i) (fun _ v16 => K - (intOf v16).toNat)
    case atStart => exact ⟨0, h, .z, f, ⟨rfl, rfl, rfl⟩, hh, by rw [HK.out]; simp, rfl, rfl⟩
    case round =>
      obtain ⟨i, hc, d, u, HU, hhc, hci, rfl, rfl⟩ := hrel
      by_cases hlt : i < K
      · obtain ⟨k, r, rfl⟩ : ∃ k r, u = .c k r := H.cnt_pos (by omega)
        obtain ⟨h1, h2, h3⟩ := HU.out
        obtain ⟨q, mq, x1, x2, x3, x4, x5, x6, x7, x8⟩ := Hq5.out.split h1 h2
        obtain ⟨ga, cc, hva⟩ := Joins.ownsRow_form Hq3.out (by omega)
        simp only [Value.slice.injEq, true_and] at hva
        obtain ⟨rfl, rfl⟩ := hva
        have y1 : w.cell? ⟨ga, i, none⟩ = some (.pointer (some ⟨q, 0, none⟩)) := (Hq3.out.cellAt i (by omega)).trans x1
        have hbody : d.body.length + (k.body.length + 1 + r.body.length) = f.body.length := by rw [← h1, H.app_body, List.length_append, H.body_c, List.length_append, H.enc_len]
        have hNk : k.body.length < N := by have := HN.out; omega
        have hlk : k.body.length ≤ 1000 := by have := Hl.out; omega
        have kn := Lib.hid (node_heads (k.body.length + 1) k q mq w (by omega) hlk x7)
        have ki := Lib.hid (node_isHead k q mq w x7)
        have kc := Lib.hid (IH.out k q mq hc w hNk hlk hhc x7)
        have hks := Lib.hid (Hq3.out.1)
        obtain ⟨F, hF1, hF2, hF3, hF4⟩ := own_rowIs Hq3.out
        unfold maxLen at hF3
        have hptr : ∀ j, j < K → (F j).oneCell' = true := by
          intro j hj
          have e1 := hF4 j hj
          have e2 := Hq5.out.ptr _ (List.mem_of_getElem? e1)
          obtain ⟨y, e3⟩ := e2
          rw [e3]; simp [Value.oneCell']
        have hgl : p + 1 ≤ ga := (Hq3.out.lt ga rfl).1
        have hgs : ga < w.heap.size := (Hq3.out.lt ga rfl).2
        have hgm : ga < m := Hq4.out ga rfl
        have hgq : ga < q ∨ mq ≤ ga := x5 ga rfl
        have hqs : q < w.heap.size := by obtain ⟨_, _, _, _, k2, _⟩ := x7; exact (Array.getElem?_eq_some_iff.1 k2).1
        have hus : us = us.take i ++ (.pointer (some ⟨q, 0, none⟩) :: us.drop (i + 1)) := by
          have hil : i < us.length := (List.getElem?_eq_some_iff.1 x1).1
          have hge : us[i] = .pointer (some ⟨q, 0, none⟩) := by rw [List.getElem?_eq_getElem hil] at x1; exact Option.some.inj x1
          conv => lhs; rw [← List.take_append_drop i us]
          rw [List.drop_eq_getElem_cons hil, hge]
        obtain ⟨hk, hhk⟩ : ∃ hk : Nat, hk = H.noughts k.enc := ⟨_, rfl⟩
        have hkk : H.heads k = (hk : Int) := by rw [hhk]; rfl
        rw [hkk] at kn
        by_cases hge : hk ≤ hc
        · obtain ⟨x, hx⟩ : ∃ x, hc = hk + x := ⟨hc - hk, by omega⟩
          have Hn := Lib.hid (cut_past' h3 hkk hx)
          subst hx
          have Hci := Lib.hid hci
          have hxx : x ≤ 1000 := by omega
          clear h1 h2 h3 x1 x2 x3 x4 x5 x6 x7 x8 hbody hhk hkk hci hF1 hF2 hF3 hF4 hus hNk hlk kc ki
          go_wp2_with fail
          refine (kn.out).mono ?_
          rintro ee w' ⟨rfl, rfl⟩
          go_wp2_with fail
          go_round
          case rel =>
            obtain ⟨h1, h2, h3⟩ := HU.out
            exact ⟨i + 1, x, d.app (.c k .z), r, ⟨by rw [H.app_assoc]; exact h1, by rw [H.app_cnt, h2]; rfl, Hn.out⟩, hxx, by have := Hci.out; simp only [H.cnt] at this; omega, by go_num, by go_num⟩
          case measure => simp [intOf]; omega
        · have hlt0 : (hc : Int) < H.heads k := by omega
          by_cases hz : k = .z
          · subst hz
            have hcut : H.cut n f h = (d.app r, true) := by rw [h3, H.cut_head (by omega) hlt0]
            rw [hcut]
            have hone : ∀ j, j < K → (F j).oneCell' = true := fun j hj => hptr j hj
            have kd := Lib.hid (deleteP_any ga K c i F w hF1 hlt hF2 hF3 hone)
            have hfin : ∀ w2, w2.rowIs ga 68 c (delF F K i) → w.grownBy w2 (some ga) → CutPost w (d.app r, true) p m (.returned (.bool true)) (w2.setCell ⟨p, 0, none⟩ (.slice (some ⟨ga, 0, none⟩) (K - 1) c)) := by
              intro w2 hR hG
              refine cut_store (ls := us.take i ++ us.drop (i + 1)) (v0 := .slice (some ⟨ga, 0, none⟩) K c) (by omega) ((Apart.refl p m w).grown hG (by omega) hgm) (by rw [hG.block p hps (by simp; omega)]; exact Hq2.out) ?_ (.inl ⟨by omega, hgm⟩) (by omega) hR.lt ?_ ?_ true
              · rw [H.app_cnt, h2]; simp only [H.cnt] at hci; omega
              · intro j hj
                rw [rowIs_cell hR (by omega)]
                have hl := list_at (hks.out.trans (Nat.mul_one K)) (fun j hj => hF4 j hj) [] (delF F K i) (K - 1) i 0 rfl hlt rfl (fun j hj => by
                  unfold delF
                  rw [if_pos (by omega)]
                  by_cases h4 : j < i
                  · rw [if_pos h4, if_pos h4]
                  · rw [if_neg h4, if_neg h4, if_neg (by omega)]; rfl) j hj
                simpa using hl
              · exact RS.app (kids_moved x6 (by omega) (by omega) hG.size (fun b h4 _ _ h5 => hG.block b h4 (by simp; exact h5))) (kids_moved x8 (by omega) (Nat.le_refl _) hG.size (fun b h4 _ _ h5 => hG.block b h4 (by simp; exact h5)))
            have hpc : ∀ w2, w.grownBy w2 (some ga) → w2.cell? ⟨p, 0, none⟩ = some (.slice (some ⟨ga, 0, none⟩) K c) ∧ w2.frozen? ⟨p, 0, none⟩ = false := by
              intro w2 hG
              have hb : w2.heap[p]? = some (.cells #[.slice (some ⟨ga, 0, none⟩) K c] 83 (0, 0)) := by rw [hG.block p hps (by simp; omega)]; exact Hq2.out
              exact ⟨Joins.cell_of_block hb 0, Joins.unfrozen_of_block hb 0⟩
            have Hfin := Lib.hid hfin
            have Hpc := Lib.hid hpc
            clear h1 h2 h3 x1 x2 x3 x4 x5 x6 x7 x8 hbody hhk hkk hci hF1 hF2 hF3 hF4 hus hNk hlk kc hcut hone hfin hpc hptr hlt0
            go_wp2_with fail
            refine (kn.out).mono ?_
            rintro ee w' ⟨rfl, rfl⟩
            go_wp2_with fail
            refine (ki.out).mono ?_
            rintro ee w' ⟨rfl, rfl⟩
            go_wp2_with fail
            refine (kd.out).mono ?_
            rintro ee w2 ⟨rfl, hR, hG⟩
            obtain ⟨xp2, fp2⟩ := Hpc.out w2 hG
            have Hf := Lib.hid (Hfin.out w2 hR hG)
            clear hR hG
            go_wp2_with fail
            go_ret
            exact Hf.out
          · have hkz : ((k.cnt : Int) == 0) = false := beq_eq_false_iff_ne.2 (fun e => hz (H.cnt_zero (by omega)))
            rw [hkz] at ki
            have hcut : H.cut n f h = (if (H.cut n k hc).2 then d.app (H.rep n (H.cut n k hc).1 r) else d.app (.c (H.cut n k hc).1 r), false) := by
              rw [h3, H.cut_in (by omega) hlt0 hz]
              cases (H.cut n k hc).2 <;> rfl
            rw [hcut]
            obtain ⟨k', hk'⟩ : ∃ k', k' = (H.cut n k hc).1 := ⟨_, rfl⟩
            unfold CutPost at kc
            cases hb2 : (H.cut n k hc).2 with
            | false =>
              rw [hb2] at kc
              simp only [Bool.false_eq_true, if_false, ← hk'] at kc ⊢
              have hfin : ∀ w2, RSn w2 (CutS w q mq) k' q → Apart q mq w w2 → CutPost w (d.app (.c k' r), false) p m (.returned (.bool false)) w2 := by
                intro w2 hR hA
                have hsame : ∀ b, b < w.heap.size → (b < q ∨ mq ≤ b) → w2.heap[b]? = w.heap[b]? := hA.block
                refine ⟨rfl, ⟨some ⟨ga, 0, none⟩, c, us, .inl ⟨Nat.le_refl _, by omega⟩, ?_, fun _ => ⟨ga, rfl, .inl ⟨by omega, hgm⟩, Nat.lt_of_lt_of_le hgs hA.size, fun j hj => ?_⟩, ?_⟩, hA.mono (by omega) x4⟩
                · rw [World.cell?_of_block (a := ⟨p, 0, none⟩) (hsame p hps (by omega))]
                  have : (d.app (.c k' r)).cnt = K := by rw [H.app_cnt, h2]; simp only [H.cnt] at hci ⊢; omega
                  rw [this]; exact xp
                · rw [World.cell?_of_block (a := ⟨ga, j, none⟩) (hsame ga hgs hgq)]
                  have : (d.app (.c k' r)).cnt = K := by rw [H.app_cnt, h2]; simp only [H.cnt] at hci ⊢; omega
                  exact Hq3.out.cellAt j (by rw [← this, Nat.mul_one]; exact hj)
                · rw [hus]
                  have e1 := kids_moved (w' := w2) (p := p) (m := m) x6 (by omega) (by omega) hA.size (fun b h4 h5 h6 _ => hsame b h4 (by omega))
                  have e2 := kids_moved (w' := w2) (p := p) (m := m) x8 (by omega) (Nat.le_refl _) hA.size (fun b h4 h5 h6 _ => hsame b h4 (by omega))
                  exact RS.app (e1.move (Nat.le_refl _) (fun b hb => hb.1) (fun _ _ _ => rfl)) (RS.cons.2 ⟨q, _, rfl, hR.move (Nat.le_refl _) (fun b hb => by
                    rcases hb with hb | hb
                    · exact .inl ⟨by omega, by omega⟩
                    · exact .inr hb) (fun _ _ _ => rfl), e2.move (Nat.le_refl _) (fun b hb => hb.1) (fun _ _ _ => rfl)⟩)
              have Hfin := Lib.hid hfin
              clear h1 h2 h3 x1 x2 x3 x4 x5 x6 x7 x8 hbody hhk hkk hci hF1 hF2 hF3 hF4 hus hNk hlk hcut hfin hptr hlt0 hb2 hk'
              go_wp2_with fail
              refine (kn.out).mono ?_
              rintro ee w' ⟨rfl, rfl⟩
              go_wp2_with fail
              refine (ki.out).mono ?_
              rintro ee w' ⟨rfl, rfl⟩
              go_wp2_with fail
              refine (kc.out).mono ?_
              rintro ee w2 ⟨rfl, hR, hA⟩
              have Hf := Lib.hid (Hfin.out w2 hR hA)
              clear hR hA
              go_wp2_with fail
              go_ret
              exact Hf.out
            | true =>
              rw [hb2] at kc
              simp only [if_true, ← hk'] at kc ⊢
              have hptr2 : (Value.pointer (some ⟨q, 0, none⟩)).oneCell' = true := by simp [Value.oneCell']
              have hfin : ∀ w2 w4 w5 g c', RSn w2 (CutS w q mq) k' q → Apart q mq w w2 → w2.grownBy w4 none → w4.grownBy w5 (some ga) → (g = ga ∨ w4.heap.size ≤ g) → g < w5.heap.size →
                  (∀ j, j < K - 1 + n → w5.cell? ⟨g, j, none⟩ = some (repF F (Rp n [.pointer (some ⟨q, 0, none⟩)]) i n j)) → CutPost w (d.app (H.rep n k' r), false) p m (.returned (.bool false)) (w5.setCell ⟨p, 0, none⟩ (.slice (some ⟨g, 0, none⟩) (K - 1 + n) c')) := by
                intro w2 w4 w5 g c' hR hA hG4 hG5 hg1 hg2 hg3
                have hsame : ∀ b, b < w.heap.size → (b < q ∨ mq ≤ b) → b ≠ ga → w5.heap[b]? = w.heap[b]? := fun b h4 h5 h6 =>
                  (hG5.block b (Nat.lt_of_lt_of_le h4 (Nat.le_trans hA.size hG4.size)) (by simp; exact h6)).trans ((hG4.block b (Nat.lt_of_lt_of_le h4 hA.size) (by simp)).trans (hA.block b h4 h5))
                have hsz : w.heap.size ≤ w5.heap.size := Nat.le_trans hA.size (Nat.le_trans hG4.size hG5.size)
                have hw4 : w.heap.size ≤ w4.heap.size := Nat.le_trans hA.size hG4.size
                have hlr : (Rp n [Value.pointer (some ⟨q, 0, none⟩)]).length = n := by rw [Rp_len]; simp
                refine cut_store (ls := us.take i ++ (Rp n [.pointer (some ⟨q, 0, none⟩)] ++ us.drop (i + 1))) (v0 := .slice (some ⟨ga, 0, none⟩) K c) (by omega) (((hA.mono (by omega) x4).new hG4).grown hG5 (by omega) hgm) (by rw [hsame p hps (by omega) (by omega)]; exact Hq2.out) ?_ ?_ (by omega) hg2 ?_ ?_ false
                · rw [H.app_cnt, H.rep_cnt, h2]; simp only [H.cnt] at hci; omega
                · rcases hg1 with rfl | hg1
                  · exact .inl ⟨by omega, hgm⟩
                  · exact .inr (by omega)
                · intro j hj
                  rw [hg3 j hj]
                  exact list_at (hks.out.trans (Nat.mul_one K)) (fun j hj => hF4 j hj) _ (repF F (Rp n [.pointer (some ⟨q, 0, none⟩)]) i n) (K - 1 + n) i n rfl hlt hlr (fun j _ => rfl) j hj
                · have e1 := kids_moved (w' := w5) (p := p) (m := m) x6 (by omega) (by omega) hsz (fun b h4 h5 h6 h7 => hsame b h4 (by omega) h7)
                  have e2 := kids_moved (w' := w5) (p := p) (m := m) x8 (by omega) (Nat.le_refl _) hsz (fun b h4 h5 h6 h7 => hsame b h4 (by omega) h7)
                  refine RS.app e1 (RS.rep (hR.move (Nat.le_trans hG4.size hG5.size) (fun b hb => ?_) (fun b h4 h5 => ?_)) e2 n)
                  · rcases hb with hb | hb
                    · exact ⟨.inl ⟨by omega, by omega⟩, by omega⟩
                    · exact ⟨.inr hb, by omega⟩
                  · have : b ≠ ga := by
                      rcases h5 with h5 | h5 <;> omega
                    exact (hG5.block b (Nat.lt_of_lt_of_le h4 hG4.size) (by simp; exact this)).trans (hG4.block b h4 (by simp))
              have hrow : ∀ w2 w4 : World, Apart q mq w w2 → w2.grownBy w4 none → w4.rowIs ga 68 c F := by
                intro w2 w4 hA hG
                exact hF1.of_block ((hG.block ga (Nat.lt_of_lt_of_le hgs hA.size) (by simp)).trans (hA.block ga hgs hgq))
              have hpc : ∀ w2 w' : World, Apart q mq w w2 → (∀ b, b < w2.heap.size → b ≠ ga → w'.heap[b]? = w2.heap[b]?) → w'.cell? ⟨p, 0, none⟩ = some (.slice (some ⟨ga, 0, none⟩) K c) ∧ w'.frozen? ⟨p, 0, none⟩ = false := by
                intro w2 w' hA hG
                have hb : w'.heap[p]? = some (.cells #[.slice (some ⟨ga, 0, none⟩) K c] 83 (0, 0)) := by rw [hG p (Nat.lt_of_lt_of_le hps hA.size) (by omega), hA.block p hps (by omega)]; exact Hq2.out
                exact ⟨Joins.cell_of_block hb 0, Joins.unfrozen_of_block hb 0⟩
              have krp := Lib.hid (fun w2 w4 (hA : Apart q mq w w2) (hG : w2.grownBy w4 none) (hv : w4.heap[w2.heap.size + 1]? = some (.cells (Rp n [.pointer (some ⟨q, 0, none⟩)]).toArray 68 (0, 0))) =>
                replaceP_any ga K c i (w2.heap.size + 1) n F (.pointer (some ⟨q, 0, none⟩)) (Rp n [.pointer (some ⟨q, 0, none⟩)]) w4 (hrow w2 w4 hA hG) hlt hF2 hF3 (by omega) hn (by omega) rfl hptr2 hptr hv (by have := hA.size; omega))
              have Hfin := Lib.hid hfin
              have Hpc := Lib.hid hpc
              clear h1 h2 h3 x1 x2 x3 x4 x5 x6 x7 x8 hbody hhk hkk hci hF1 hF2 hF3 hF4 hus hNk hlk hcut hfin hptr hptr2 hlt0 hb2 hk' hrow hpc
              go_wp2_with fail
              refine (kn.out).mono ?_
              rintro ee w' ⟨rfl, rfl⟩
              go_wp2_with fail
              refine (ki.out).mono ?_
              rintro ee w' ⟨rfl, rfl⟩
              go_wp2_with fail
              refine (kc.out).mono ?_
              rintro ee w2 ⟨rfl, hR, hA⟩
              have HR := Lib.hid hR
              have HA := Lib.hid hA
              clear hR hA
              go_wp2_with fail
              refine (repeat_node q n hn hn9 w2).mono ?_
              rintro ee w4 ⟨rfl, hv4, hG4⟩
              have kr := Lib.hid (krp.out w2 w4 HA.out hG4 hv4)
              obtain ⟨xp4, fp4⟩ := Hpc.out w2 w4 HA.out (fun b h4 _ => hG4.block b h4 (by simp))
              have HG4 := Lib.hid hG4
              clear hG4 hv4
              go_wp2_with fail
              refine (kr.out).mono ?_
              rintro ee w5 ⟨g, c', rfl, hg2, hg3, hG5, hg1⟩
              obtain ⟨xp5, fp5⟩ := Hpc.out w2 w5 HA.out (fun b h4 h5 => (hG5.block b (Nat.lt_of_lt_of_le h4 HG4.out.size) (by simp; exact h5)).trans (HG4.out.block b h4 (by simp)))
              have Hf := Lib.hid (Hfin.out w2 w4 w5 g c' HR.out HA.out HG4.out hG5 hg1 hg2 hg3)
              clear hG5 hg1 hg2 hg3
              go_wp2_with fail
              go_ret
              exact Hf.out
      · obtain ⟨h1, h2, h3⟩ := HU.out
        have hu : u = .z := H.cnt_zero (by omega)
        subst hu
        have hdf : d = f := by rw [H.app_z] at h1; exact h1
        have hcut : H.cut n f h = (f, false) := by rw [h3, hdf]; simp only [H.cut, H.app_z]
        have Hp := Lib.hid (show CutPost w (H.cut n f h) p m (.returned (.bool false)) w from by rw [hcut]; exact ⟨rfl, Hself.out, Apart.refl p m w⟩)
        clear h1 h2 h3 hci hdf hcut
        go_wp2_with fail
        go_ret
        exact Hp.out

end Go.Proofs.Ytdcgcohfbcdnnaa

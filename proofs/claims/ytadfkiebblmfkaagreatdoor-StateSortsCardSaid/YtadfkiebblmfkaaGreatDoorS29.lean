import Derived.Test.YtadfkiebblmfkaaGreatDoorS25
import Derived.Test.YtadfkiebblmfkaaGreatDoorS28
import Derived.Laws.MakeOwn
/- Items whose memory lies in blocks of a kind. -/
namespace Go.Proofs.YtadfkiebblmfkaaGreatDoor
open Go Go.RowKit

mutual
def ItemS (W : World) (S : Nat → Prop) : It → Value → Prop
  | .mk l b ks, v => ∃ a cap, v = .agg #[.bool l, .string b, .slice a ks.length cap] ∧ ks.length ≤ 1099511627776 ∧ b.size ≤ 140737488355328 ∧ (ks = [] ∨ ∃ g o, a = some ⟨g, o, none⟩ ∧ S g ∧ KidsS W S ks g o)
def KidsS (W : World) (S : Nat → Prop) : List It → Nat → Nat → Prop
  | [], _, _ => True
  | k :: ks, g, o => (∃ v0 v1 v2, W.cell? ⟨g, o, none⟩ = some v0 ∧ W.cell? ⟨g, o + 1, none⟩ = some v1 ∧ W.cell? ⟨g, o + 2, none⟩ = some v2 ∧ ItemS W S k (.agg #[v0, v1, v2])) ∧ KidsS W S ks g (o + 3)
end
mutual
theorem ItemS.at {W : World} {S : Nat → Prop} : ∀ {t : It} {v : Value}, ItemS W S t v → ItemAt W t v
  | .mk l b ks, v, h => by
    unfold ItemS at h
    unfold ItemAt
    obtain ⟨a, cap, hv, hn, hs, hk⟩ := h
    refine ⟨a, cap, hv, hn, hs, ?_⟩
    rcases hk with h0 | ⟨g, o, ha, _, hk⟩
    · exact .inl h0
    · exact .inr ⟨g, o, ha, KidsS.at hk⟩
theorem KidsS.at {W : World} {S : Nat → Prop} : ∀ {ks : List It} {g o : Nat}, KidsS W S ks g o → KidsAt W ks g o
  | [], _, _, _ => by unfold KidsAt; trivial
  | k :: ks, g, o, h => by
    unfold KidsS at h
    unfold KidsAt
    obtain ⟨⟨v0, v1, v2, h0, h1, h2, hk⟩, hr⟩ := h
    exact ⟨⟨v0, v1, v2, h0, h1, h2, ItemS.at hk⟩, KidsS.at hr⟩
end
mutual
theorem ItemS.keepC {W X : World} {S T : Nat → Prop} (hk : ∀ (b : Nat) (o : Obj), S b → W.heap[b]? = some o → o.isCells = true → X.heap[b]? = some o) (hm : ∀ b, S b → b < W.heap.size → T b) : ∀ {t : It} {v : Value}, ItemS W S t v → ItemS X T t v
  | .mk l b ks, v, h => by
    unfold ItemS at h ⊢
    obtain ⟨a, cap, hv, hn, hs, hq⟩ := h
    refine ⟨a, cap, hv, hn, hs, ?_⟩
    rcases hq with h0 | ⟨g, o, ha, hg, hq⟩
    · exact .inl h0
    · by_cases hks : ks = []
      · exact .inl hks
      · have hlt : g < W.heap.size := by
          cases ks with
          | nil => exact absurd rfl hks
          | cons k ks =>
            unfold KidsS at hq
            obtain ⟨⟨v0, _, _, h0, _⟩, _⟩ := hq
            exact ltCell h0
        exact .inr ⟨g, o, ha, hm g hg hlt, KidsS.keepC hk hm hg hq⟩
theorem KidsS.keepC {W X : World} {S T : Nat → Prop} (hk : ∀ (b : Nat) (o : Obj), S b → W.heap[b]? = some o → o.isCells = true → X.heap[b]? = some o) (hm : ∀ b, S b → b < W.heap.size → T b) : ∀ {ks : List It} {g o : Nat}, S g → KidsS W S ks g o → KidsS X T ks g o
  | [], _, _, _, _ => by unfold KidsS; trivial
  | k :: ks, g, o, hg, h => by
    unfold KidsS at h ⊢
    obtain ⟨⟨v0, v1, v2, h0, h1, h2, hq⟩, hr⟩ := h
    have e : X.heap[g]? = W.heap[g]? := by
      obtain ⟨ob, ho, hc⟩ := cell_block h0
      exact (hk g ob hg ho hc).trans ho.symm
    exact ⟨⟨v0, v1, v2, (World.cell?_of_block (a := ⟨g, o, none⟩) e).trans h0, (World.cell?_of_block (a := ⟨g, o + 1, none⟩) e).trans h1, (World.cell?_of_block (a := ⟨g, o + 2, none⟩) e).trans h2, ItemS.keepC hk hm hq⟩, KidsS.keepC hk hm hg hr⟩
end
theorem ItemS.keep {W X : World} {S T : Nat → Prop} (hk : ∀ b, S b → b < W.heap.size → X.heap[b]? = W.heap[b]?) (hm : ∀ b, S b → b < W.heap.size → T b) {t : It} {v : Value} (h : ItemS W S t v) : ItemS X T t v :=
  h.keepC (fun b o hb ho _ => (hk b hb (Array.getElem?_eq_some_iff.1 ho).1).trans ho) hm
theorem KidsS.keep {W X : World} {S T : Nat → Prop} (hk : ∀ b, S b → b < W.heap.size → X.heap[b]? = W.heap[b]?) (hm : ∀ b, S b → b < W.heap.size → T b) {ks : List It} {g o : Nat} (hg : S g) (h : KidsS W S ks g o) : KidsS X T ks g o :=
  KidsS.keepC (fun b o hb ho _ => (hk b hb (Array.getElem?_eq_some_iff.1 ho).1).trans ho) hm hg h
theorem ItemS.later {W X : World} {S : Nat → Prop} {t : It} {v : Value} (h : ItemS W S t v) (hb : Below W.heap.size W X) : ItemS X S t v := h.keep (fun b _ hl => hb.block b hl) (fun _ h _ => h)
theorem ItemS.mono {W : World} {S T : Nat → Prop} {t : It} {v : Value} (h : ItemS W S t v) (hm : ∀ b, S b → b < W.heap.size → T b) : ItemS W T t v := h.keep (fun _ _ _ => rfl) hm
theorem ItemS.open {W : World} {S : Nat → Prop} {t : It} {v : Value} (h : ItemS W S t v) :
    ∃ a cap, v = .agg #[.bool t.list, .string t.bytes, .slice a t.kids.length cap] ∧ t.kids.length ≤ 1099511627776 ∧ t.bytes.size ≤ 140737488355328 ∧ (t.kids = [] ∨ ∃ g o, a = some ⟨g, o, none⟩ ∧ S g ∧ KidsS W S t.kids g o) := by
  obtain ⟨l, b, ks⟩ := t
  unfold ItemS at h
  exact h
theorem ItemS.mk' {W : World} {S : Nat → Prop} {t : It} {a : Option Addr} {cap : Nat} (hn : t.kids.length ≤ 1099511627776) (hs : t.bytes.size ≤ 140737488355328) (hk : t.kids = [] ∨ ∃ g o, a = some ⟨g, o, none⟩ ∧ S g ∧ KidsS W S t.kids g o) :
    ItemS W S t (.agg #[.bool t.list, .string t.bytes, .slice a t.kids.length cap]) := by
  obtain ⟨l, b, ks⟩ := t
  unfold ItemS
  exact ⟨a, cap, rfl, hn, hs, hk⟩
theorem KidsS.of_get {W : World} {S : Nat → Prop} : ∀ {ks : List It} {g o : Nat}, (∀ j k, ks[j]? = some k → ∃ v0 v1 v2, W.cell? ⟨g, o + j * 3, none⟩ = some v0 ∧ W.cell? ⟨g, o + j * 3 + 1, none⟩ = some v1 ∧ W.cell? ⟨g, o + j * 3 + 2, none⟩ = some v2 ∧ ItemS W S k (.agg #[v0, v1, v2])) → KidsS W S ks g o
  | [], _, _, _ => by unfold KidsS; trivial
  | k :: ks, g, o, h => by
    unfold KidsS
    refine ⟨?_, KidsS.of_get (fun j x hx => ?_)⟩
    · have := h 0 k rfl
      simpa using this
    · have := h (j + 1) x (by simpa using hx)
      rw [show o + (j + 1) * 3 = o + 3 + j * 3 by omega] at this
      exact this
theorem KidsS.get {W : World} {S : Nat → Prop} : ∀ {ks : List It} {g o : Nat} (_ : KidsS W S ks g o) (j : Nat) (k : It), ks[j]? = some k →
    ∃ v0 v1 v2, W.cell? ⟨g, o + j * 3, none⟩ = some v0 ∧ W.cell? ⟨g, o + j * 3 + 1, none⟩ = some v1 ∧ W.cell? ⟨g, o + j * 3 + 2, none⟩ = some v2 ∧ ItemS W S k (.agg #[v0, v1, v2])
  | [], _, _, _, j, k, h => by simp at h
  | k0 :: ks, g, o, hK, 0, k, h => by
    unfold KidsS at hK
    simp at h
    subst h
    simpa using hK.1
  | k0 :: ks, g, o, hK, j + 1, k, h => by
    unfold KidsS at hK
    have h' : ks[j]? = some k := by simpa using h
    obtain ⟨v0, v1, v2, h0, h1, h2, hi⟩ := KidsS.get hK.2 j k h'
    rw [show o + 3 + j * 3 = o + (j + 1) * 3 by omega] at h0 h1 h2
    exact ⟨v0, v1, v2, h0, h1, h2, hi⟩
/-- How kids lie, in blocks of a kind. -/
def KidsInS (W : World) (S : Nat → Prop) (ks : List It) (a : Option Addr) : Prop := ks = [] ∨ ∃ g o, a = some ⟨g, o, none⟩ ∧ S g ∧ KidsS W S ks g o
theorem KidsInS.at {W : World} {S : Nat → Prop} {ks : List It} {a : Option Addr} (h : KidsInS W S ks a) : KidsIn W ks a := by
  rcases h with h | ⟨g, o, e, _, h⟩
  · exact .inl h
  · exact .inr ⟨g, o, e, h.at⟩
theorem KidsInS.keep {W X : World} {S T : Nat → Prop} (hk : ∀ b, S b → b < W.heap.size → X.heap[b]? = W.heap[b]?) (hm : ∀ b, S b → b < W.heap.size → T b) {ks : List It} {a : Option Addr} (h : KidsInS W S ks a) : KidsInS X T ks a := by
  rcases h with h | ⟨g, o, e, hg, h⟩
  · exact .inl h
  · by_cases hks : ks = []
    · exact .inl hks
    · have hlt : g < W.heap.size := by
        cases ks with
        | nil => exact absurd rfl hks
        | cons k ks =>
          unfold KidsS at h
          obtain ⟨⟨v0, _, _, h0, _⟩, _⟩ := h
          exact ltCell h0
      exact .inr ⟨g, o, e, hm g hg hlt, h.keep hk hm hg⟩
end Go.Proofs.YtadfkiebblmfkaaGreatDoor

/- copied, List, Value. Conditions: the items lie in memory. -/
namespace Go.Proofs.YtadfkiebblmfkaaGreatDoor
open Go Go.RowKit
attribute [local go_sem] Oper.semAt_some Grows wide_fn

/-- What copied comes to. -/
def CopyP (ks : List It) (W : World) (e : Ending) (W' : World) : Prop :=
  ∃ a cap, e = .returned (.slice a ks.length cap) ∧ KidsInS W' (fun b => W.heap.size ≤ b) ks a ∧ Below W.heap.size W W'
def CopyAt (ks : List It) : Prop := ∀ (a : Option Addr) (cap : Nat) (W : World), KidsIn W ks a → ks.length ≤ 1099511627776 → Calls Tryz.prog 102 #[.slice a ks.length cap] W (CopyP ks W)

theorem infoItem : (Tryz.prog.info? 82).map (fun i => (i.zero, i.size, i.bytes)) = some (some (.agg #[.bool false, .string ⟨#[]⟩, .slice none 0 0]), 3, 48) := by kernel_rfl
theorem infoI_of : ∃ i, Tryz.prog.info? 82 = some i ∧ i.zero = some (.agg #[.bool false, .string ⟨#[]⟩, .slice none 0 0]) ∧ i.size = 3 ∧ i.bytes = 48 := by
  have h := infoItem
  rcases hi : Tryz.prog.info? 82 with _ | i
  · rw [hi] at h; cases h
  · rw [hi] at h
    injection h with h
    simp only [Prod.mk.injEq] at h
    exact ⟨i, rfl, h.1, h.2.1, h.2.2⟩
theorem run_mkItems (n : Nat) (hn : n ≤ 1099511627776) (W : World) : ∃ cs : Array Value, cs.size = n * 3 ∧ (Instr.makeSlice 80 (.int .i64 (n : Int)) (.int .i64 (n : Int))).run Tryz.prog W = .ok (.slice (some ⟨W.heap.size, 0, none⟩) n n) (W.alloc (.cells cs 82)) := by
  obtain ⟨i, hi, hz, hsz, hb⟩ := infoI_of
  have h := run_make (P := Tryz.prog) W 80 82 i _ Tryz.underlying80 hi hz .i64 .i64 (n : Int) (n : Int) (by omega) (by omega) (by rw [hb]; omega) (by omega)
  simp only [Int.toNat_natCast] at h
  rw [hsz] at h
  exact ⟨_, size_madeCells _ _, h⟩

/-- What copied's loop holds: a row of items, the first k of them told. -/
def RowI (W : World) (G n : Nat) (ks : List It) (k : Nat) : Prop :=
  ∃ cur : Array Value, Has W G 82 cur ∧ cur.size = n * 3 ∧ ∀ j x, j < k → ks[j]? = some x → ∃ v0 v1 v2, cur[j * 3]? = some v0 ∧ cur[j * 3 + 1]? = some v1 ∧ cur[j * 3 + 2]? = some v2 ∧ ItemS W (fun b => G < b) x (.agg #[v0, v1, v2])
theorem RowI.done {W : World} {G n : Nat} {ks : List It} (h : RowI W G n ks ks.length) : KidsS W (fun b => G ≤ b) ks G 0 := by
  obtain ⟨cur, h1, h2, h3⟩ := h
  refine KidsS.of_get (fun j x hx => ?_)
  obtain ⟨v0, v1, v2, e0, e1, e2, hi⟩ := h3 j x (List.getElem?_eq_some_iff.1 hx).1 hx
  refine ⟨v0, v1, v2, ?_, ?_, ?_, hi.mono (fun b hb _ => Nat.le_of_lt hb)⟩
  · rw [Nat.zero_add]; exact h1.cell _ _ e0
  · rw [Nat.zero_add]; exact h1.cell _ _ e1
  · rw [Nat.zero_add]; exact h1.cell _ _ e2

set_option maxRecDepth 100000 in
set_option maxHeartbeats 4000000 in
theorem copy_step (ks : List It) (IH : ∀ k ∈ ks, CopyAt k.kids) : CopyAt ks := by
  intro a cap w hk hn
  have hmx : Tryz.prog.follows .mixedOrders = true := by kernel_rfl
  have HI := Lib.hid IH
  have HK := Lib.hid hk
  clear IH hk
  obtain ⟨n, en⟩ : ∃ n, ks.length = n := ⟨_, rfl⟩
  have hfin := Lib.hid (show ∀ W, RowI W w.heap.size n ks n → Below w.heap.size w W → CopyP ks w (.returned (.slice (some ⟨w.heap.size, 0, none⟩) n n)) W from fun W h1 h2 =>
    ⟨some ⟨w.heap.size, 0, none⟩, n, by rw [en], .inr ⟨w.heap.size, 0, rfl, Nat.le_refl _, RowI.done (n := n) (by rw [en]; exact h1)⟩, h2⟩)
  rw [en] at hn ⊢
  replace en := Lib.hid en
  obtain ⟨cs, hcs, hmk⟩ := run_mkItems n hn w
  have LG := Has.new w 82 cs
  have Q := (Below.refl w.heap.size w).alloc (Nat.le_refl _) (.cells cs 82)
  obtain ⟨W1, hW1⟩ : ∃ W1, w.alloc (.cells cs 82) = W1 := ⟨_, rfl⟩
  rw [hW1] at LG Q hmk
  replace hcs := Lib.hid hcs
  replace LG := Lib.hid LG
  replace Q := Lib.hid Q
  replace hW1 := Lib.hid hW1
  go_enter Tryz.func102, Tryz.ntmps102
  go_wp2_with fail
  clear hmk
  go_loopw [11] (fun i wr => ∃ k : Nat, k ≤ n ∧ i = .int .i64 (k : Int) ∧ RowI wr w.heap.size n ks k ∧ Below w.heap.size w wr) (fun i _ => n - (intOf i).toNat)
  case atStart => exact ⟨0, by omega, rfl, ⟨cs, LG.out, hcs.out, fun j x hj => absurd hj (by omega)⟩, Q.out⟩
  case round =>
    clear LG Q hcs hW1
    obtain ⟨k, hkn, rfl, hrow, Q⟩ := hrel
    by_cases hk5 : k < n
    · have hkI : (k : Int) < (n : Int) := by omega
      have hk0 : (0 : Int) ≤ (k : Int) := by omega
      obtain ⟨g, o, rfl, hK⟩ := HK.out.resolve_left (fun h => by have h2 := en.out; rw [h] at h2; simp at h2; omega)
      obtain ⟨kx, hkx⟩ : ∃ kx, ks[k]? = some kx := ⟨_, List.getElem?_eq_getElem (by have := en.out; omega)⟩
      have hm : kx ∈ ks := List.mem_of_getElem? hkx
      obtain ⟨v0, v1, v2, e0, e1, e2, hi⟩ := hK.get k _ hkx
      obtain ⟨a1, cap1, hv, hn1, hs1, hkk⟩ := hi.open
      injection hv with hv
      injection hv with hv
      injection hv with q0 hv
      injection hv with q1 hv
      injection hv with q2 hv
      subst q0 q1 q2
      replace e0 := (Q.cell (p := ⟨g, _, none⟩) (ltCell e0)).trans e0
      replace e1 := (Q.cell (p := ⟨g, _, none⟩) (ltCell e1)).trans e1
      replace e2 := (Q.cell (p := ⟨g, _, none⟩) (ltCell e2)).trans e2
      have q := (Below.refl wr.heap.size wr).alloc (Nat.le_refl _) (.cells #[.bool kx.list, .string kx.bytes, .slice a1 kx.kids.length cap1] 82)
      have LB := Has.new wr 82 #[.bool kx.list, .string kx.bytes, .slice a1 kx.kids.length cap1]
      have hkk' : KidsIn w kx.kids a1 := hkk
      have HC := Lib.hid (HI.out kx hm a1 cap1 _ (hkk'.later (Q.trans (q.mono Q.size))) hn1)
      have NX := Has.new wr 82 #[.bool false, .string ⟨#[]⟩, .slice none 0 0]
      have x0 := NX.cell 0 _ rfl
      have x1 := NX.cell 1 _ rfl
      have x2 := NX.cell 2 _ rfl
      have f0 := NX.frozen 0
      have f1 := NX.frozen 1
      have f2 := NX.frozen 2
      have y0 := LB.cell 0 _ rfl
      have y1 := LB.cell 1 _ rfl
      have y2 := LB.cell 2 _ rfl
      have z2 := LB.frozen 2
      have lg := ltCell e0
      have hxs := Lib.hid (And.intro hkx (And.intro hn1 hs1))
      have HE := Lib.hid (show ItemS wr (fun _ => False) (.mk true ⟨#[]⟩ []) (.agg #[.bool true, .string ⟨#[]⟩, .slice none 0 0]) from by unfold ItemS; exact ⟨none, 0, rfl, by simp, by decide, .inl rfl⟩)
      replace NX := Lib.hid NX
      replace LB := Lib.hid LB
      replace q := Lib.hid q
      replace Q := Lib.hid Q
      replace hrow := Lib.hid hrow
      clear hi hK HK hkk hkk' hkx hn1 hs1 HI hm HE
      go_wp2_with fail
      refine HC.out.mono ?_
      rintro _ W3 ⟨a3, cap3, rfl, hk3, q3⟩
      obtain ⟨cur, r1, r2, r3⟩ := hrow.out
      have hGlt := r1.lt
      have hwr3 : Below wr.heap.size wr W3 := q.out.trans (q3.mono q.out.size)
      have R3 : Has W3 w.heap.size 82 cur := r1.below hwr3 r1.lt
      have B3 : Has W3 wr.heap.size 82 #[.bool kx.list, .string kx.bytes, .slice a1 kx.kids.length cap1] := LB.out.later q3
      have hGB : w.heap.size ≠ wr.heap.size := by omega
      have y0 := B3.cell 0 _ rfl
      have y1 := B3.cell 1 _ rfl
      have y2 := B3.cell 2 _ rfl
      have z2 := B3.frozen 2
      have i0 : k * 3 < cur.size := by rw [r2]; omega
      have i1 : k * 3 + 1 < cur.size := by rw [r2]; omega
      have i2 : k * 3 + 2 < cur.size := by rw [r2]; omega
      have g0 := R3.cell (k * 3) _ (Array.getElem?_eq_getElem i0)
      have g1 := R3.cell (k * 3 + 1) _ (Array.getElem?_eq_getElem i1)
      have g2 := R3.cell (k * 3 + 2) _ (Array.getElem?_eq_getElem i2)
      have h0 := R3.frozen (k * 3)
      have h1 := R3.frozen (k * 3 + 1)
      have h2 := R3.frozen (k * 3 + 2)
      generalize cur[k * 3] = gv0 at *
      generalize cur[k * 3 + 1] = gv1 at *
      generalize cur[k * 3 + 2] = gv2 at *
      obtain ⟨W5, hW5⟩ : ∃ W5, (((W3.setCell ⟨wr.heap.size, 2, none⟩ (.slice a3 kx.kids.length cap3)).setCell ⟨w.heap.size, k * 3, none⟩ (.bool kx.list)).setCell ⟨w.heap.size, k * 3 + 1, none⟩ (.string kx.bytes)).setCell ⟨w.heap.size, k * 3 + 2, none⟩ (.slice a3 kx.kids.length cap3) = W5 := ⟨_, rfl⟩
      have hset : ∀ b, b ≠ wr.heap.size → b ≠ w.heap.size → W5.heap[b]? = W3.heap[b]? := fun b hb hb' => by
        rw [← hW5]
        exact (Below.heap_setCell _ _ _ b (by exact hb')).trans ((Below.heap_setCell _ _ _ b (by exact hb')).trans ((Below.heap_setCell _ _ _ b (by exact hb')).trans (Below.heap_setCell _ _ _ b (by exact hb))))
      have R5 : Has W5 w.heap.size 82 (((cur.setIfInBounds (k * 3) (.bool kx.list)).setIfInBounds (k * 3 + 1) (.string kx.bytes)).setIfInBounds (k * 3 + 2) (.slice a3 kx.kids.length cap3)) := by
        rw [← hW5]
        exact (((R3.other (p := ⟨wr.heap.size, 2, none⟩) hGB _).set (k * 3) _).set (k * 3 + 1) _).set (k * 3 + 2) _
      have Q5 := Lib.hid (show Below w.heap.size w W5 by
        have q0 := Q.out.trans (hwr3.mono Q.out.size)
        rw [← hW5]
        exact (((q0.setCell (p := ⟨wr.heap.size, 2, none⟩) (by simp; omega) _).setCell (p := ⟨w.heap.size, k * 3, none⟩) (Nat.le_refl _) _).setCell (p := ⟨w.heap.size, k * 3 + 1, none⟩) (Nat.le_refl _) _).setCell (p := ⟨w.heap.size, k * 3 + 2, none⟩) (Nat.le_refl _) _)
      have hK5 : ItemS W5 (fun b => w.heap.size < b) kx (.agg #[.bool kx.list, .string kx.bytes, .slice a3 kx.kids.length cap3]) := ItemS.mk' hxs.out.2.1 hxs.out.2.2 (KidsInS.keep (S := fun b => (wr.alloc (.cells #[.bool kx.list, .string kx.bytes, .slice a1 kx.kids.length cap1] 82)).heap.size ≤ b) (fun b hb _ => hset b (by simp at hb; omega) (by simp at hb; omega)) (fun b hb _ => by simp at hb; omega) hk3)
      have hrow5 := Lib.hid (show RowI W5 w.heap.size n ks (k + 1) from ⟨_, R5, by simp [r2], fun j x hj hx => by
        by_cases hjk : j = k
        · subst hjk
          rw [hxs.out.1] at hx
          injection hx with hx
          subst hx
          refine ⟨_, _, _, ?_, ?_, ?_, hK5⟩
          · rw [Array.getElem?_setIfInBounds_ne (by omega), Array.getElem?_setIfInBounds_ne (by omega), Array.getElem?_setIfInBounds_self_of_lt (by simpa using i0)]
          · rw [Array.getElem?_setIfInBounds_ne (by omega), Array.getElem?_setIfInBounds_self_of_lt (by simpa using i1)]
          · rw [Array.getElem?_setIfInBounds_self_of_lt (by simpa using i2)]
        · obtain ⟨u0, u1, u2, t0, t1, t2, hi⟩ := r3 j x (by omega) hx
          refine ⟨u0, u1, u2, ?_, ?_, ?_, hi.keep (fun b hb hl => (hset b (by omega) (by omega)).trans (hwr3.block b hl)) (fun b hb _ => hb)⟩
          · rw [Array.getElem?_setIfInBounds_ne (by omega), Array.getElem?_setIfInBounds_ne (by omega), Array.getElem?_setIfInBounds_ne (by omega)]; exact t0
          · rw [Array.getElem?_setIfInBounds_ne (by omega), Array.getElem?_setIfInBounds_ne (by omega), Array.getElem?_setIfInBounds_ne (by omega)]; exact t1
          · rw [Array.getElem?_setIfInBounds_ne (by omega), Array.getElem?_setIfInBounds_ne (by omega), Array.getElem?_setIfInBounds_ne (by omega)]; exact t2⟩)
      clear hset R5 hK5 hwr3 R3 B3 r1 r2 r3 hk3 q3 i0 i1 i2 hGlt hrow q Q HC x0 x1 x2 f0 f1 f2 NX LB hxs e0 e1 e2 lg
      replace hW5 := Lib.hid hW5
      go_wp2_with fail
      rw [hW5.out]
      exact ⟨⟨k + 1, by omega, by simp, hrow5.out, Q5.out⟩, by simp [intOf]; omega⟩
    · obtain rfl : k = n := by omega
      have hE := Lib.hid (hfin.out _ hrow Q)
      clear hrow Q
      go_wp2_with fail
      go_ret
      exact hE.out
theorem copy_any (ks : List It) : CopyAt ks := by
  have H : ∀ t : It, CopyAt t.kids := It.induct (fun t ih => copy_step t.kids ih)
  exact H (.mk true ⟨#[]⟩ ks)

/-- What List comes to. -/
def ListP (ks : List It) (W : World) (e : Ending) (W' : World) : Prop :=
  ∃ a cap, e = .returned (.agg #[.bool true, .string ⟨#[]⟩, .slice a ks.length cap]) ∧ ItemS W' (fun b => W.heap.size ≤ b) (.mk true ⟨#[]⟩ ks) (.agg #[.bool true, .string ⟨#[]⟩, .slice a ks.length cap]) ∧ Below W.heap.size W W'

set_option maxRecDepth 100000 in
set_option maxHeartbeats 2000000 in
theorem list_any (ks : List It) (a : Option Addr) (cap : Nat) (w : World) (hk : KidsIn w ks a) (hn : ks.length ≤ 1099511627776) : Calls Tryz.prog 72 #[.slice a ks.length cap] w (ListP ks w) := by
  have q0 := (Below.refl w.heap.size w).alloc (Nat.le_refl _) (.cells #[.bool false, .string ⟨#[]⟩, .slice none 0 0] 82)
  have HC := Lib.hid (copy_any ks a cap _ (hk.later q0) hn)
  have NX := Lib.hid (Has.new w 82 #[.bool false, .string ⟨#[]⟩, .slice none 0 0])
  replace hn := Lib.hid hn
  replace q0 := Lib.hid q0
  go_enter Tryz.func72, Tryz.ntmps72
  go_wp2_with fail
  refine HC.out.mono ?_
  rintro _ W2 ⟨a2, cap2, rfl, hk2, q2⟩
  have N2 := NX.out.later q2
  have q := q0.out.trans (q2.mono q0.out.size)
  have f0 := N2.frozen 0
  have f1 := N2.frozen 1
  have f2 := N2.frozen 2
  have x0 := N2.cell 0 _ rfl
  have x1 := N2.cell 1 _ rfl
  have x2 := N2.cell 2 _ rfl
  have S := ((N2.set 0 (.bool true)).set 1 (.string ⟨#[]⟩)).set 2 (.slice a2 ks.length cap2)
  have q5 := ((q.setCell (p := ⟨w.heap.size, 0, none⟩) (Nat.le_refl _) (.bool true)).setCell (p := ⟨w.heap.size, 1, none⟩) (Nat.le_refl _) (.string ⟨#[]⟩)).setCell (p := ⟨w.heap.size, 2, none⟩) (Nat.le_refl _) (.slice a2 ks.length cap2)
  have hI : ItemS _ (fun b => w.heap.size ≤ b) (.mk true ⟨#[]⟩ ks) (.agg #[.bool true, .string ⟨#[]⟩, .slice a2 ks.length cap2]) := ItemS.mk' (t := .mk true ⟨#[]⟩ ks) hn.out (show 0 ≤ 140737488355328 by omega) (KidsInS.keep (X := ((W2.setCell ⟨w.heap.size, 0, none⟩ (.bool true)).setCell ⟨w.heap.size, 1, none⟩ (.string ⟨#[]⟩)).setCell ⟨w.heap.size, 2, none⟩ (.slice a2 ks.length cap2)) (fun b hb _ => by
    have hne : b ≠ w.heap.size := by simp at hb; omega
    exact (Below.heap_setCell _ _ _ b hne).trans ((Below.heap_setCell _ _ _ b hne).trans (Below.heap_setCell _ _ _ b hne))) (fun b hb _ => by simp at hb; omega) hk2)
  have hE := Lib.hid (show ListP ks w (.returned (.agg #[.bool true, .string ⟨#[]⟩, .slice a2 ks.length cap2])) _ from ⟨a2, cap2, rfl, hI, q5⟩)
  clear hI q5 q q2 hk2 HC
  replace N2 := Lib.hid N2
  replace S := Lib.hid S
  generalize ks.length = n at *
  go_wp2_with fail
  have y0 := S.out.cell 0 _ rfl
  have y1 := S.out.cell 1 _ rfl
  have y2 := S.out.cell 2 _ rfl
  exact bodyPost_ret (v := .agg #[.bool true, .string ⟨#[]⟩, .slice a2 n cap2]) (by simp [results, Tryz.results72, go_sem, y0, y1, y2]) rfl hE.out
end Go.Proofs.YtadfkiebblmfkaaGreatDoor

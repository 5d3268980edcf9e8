import Derived.Test.YtbbpmcebakckaaaGreatDoorU05
import Derived.Test.YtbbpmcebakckaaaGreatDoorU09
import Derived.Laws.MakeOwn
import Derived.Test.YtbbpmcebakckaaaGreatDoorU08
/- copied, List, Value. Conditions: the items lie in memory. -/
namespace Go.Proofs.YtbbpmcebakckaaaGreatDoor
open Go Go.RowKit
attribute [local go_sem] Oper.semAt_some Grows wide_fn

/-- What copied comes to. -/
def CopyP (ks : List It) (W : World) (e : Ending) (W' : World) : Prop :=
  ∃ a cap, e = .returned (.slice a ks.length cap) ∧ KidsInS W' (fun b => W.heap.size ≤ b) ks a ∧ Below W.heap.size W W'
def CopyAt (ks : List It) : Prop := ∀ (a : Option Addr) (cap : Nat) (W : World), KidsIn W ks a → ks.length ≤ 1099511627776 → Calls Tryz.prog 26 #[.slice a ks.length cap] W (CopyP ks W)

theorem infoItem : (Tryz.prog.info? 29).map (fun i => (i.zero, i.size, i.bytes)) = some (some (.agg #[.bool false, .string ⟨#[]⟩, .slice none 0 0]), 3, 48) := by kernel_rfl
theorem infoI_of : ∃ i, Tryz.prog.info? 29 = some i ∧ i.zero = some (.agg #[.bool false, .string ⟨#[]⟩, .slice none 0 0]) ∧ i.size = 3 ∧ i.bytes = 48 := by
  have h := infoItem
  rcases hi : Tryz.prog.info? 29 with _ | i
  · rw [hi] at h; cases h
  · rw [hi] at h
    injection h with h
    simp only [Prod.mk.injEq] at h
    exact ⟨i, rfl, h.1, h.2.1, h.2.2⟩
theorem run_mkItems (n : Nat) (hn : n ≤ 1099511627776) (W : World) : ∃ cs : Array Value, cs.size = n * 3 ∧ (Instr.makeSlice 27 (.int .i64 (n : Int)) (.int .i64 (n : Int))).run Tryz.prog W = .ok (.slice (some ⟨W.heap.size, 0, none⟩) n n) (W.alloc (.cells cs 29)) := by
  obtain ⟨i, hi, hz, hsz, hb⟩ := infoI_of
  have h := run_make (P := Tryz.prog) W 27 29 i _ Tryz.underlying27 hi hz .i64 .i64 (n : Int) (n : Int) (by omega) (by omega) (by rw [hb]; omega) (by omega)
  simp only [Int.toNat_natCast] at h
  rw [hsz] at h
  exact ⟨_, size_madeCells _ _, h⟩

/-- What copied's loop holds: a row of items, the first k of them told. -/
def RowI (W : World) (G n : Nat) (ks : List It) (k : Nat) : Prop :=
  ∃ cur : Array Value, Has W G 29 cur ∧ cur.size = n * 3 ∧ ∀ j x, j < k → ks[j]? = some x → ∃ v0 v1 v2, cur[j * 3]? = some v0 ∧ cur[j * 3 + 1]? = some v1 ∧ cur[j * 3 + 2]? = some v2 ∧ ItemS W (fun b => G < b) x (.agg #[v0, v1, v2])
theorem RowI.done {W : World} {G n : Nat} {ks : List It} (h : RowI W G n ks ks.length) : KidsS W (fun b => G ≤ b) ks G 0 := by
  obtain ⟨cur, h1, h2, h3⟩ := h
  refine KidsS.of_get (fun j x hx => ?_)
  obtain ⟨v0, v1, v2, e0, e1, e2, hi⟩ := h3 j x (List.getElem?_eq_some_iff.1 hx).1 hx
  refine ⟨v0, v1, v2, ?_, ?_, ?_, hi.mono (fun b hb _ => Nat.le_of_lt hb)⟩
  · rw [Nat.zero_add]; exact h1.cell _ _ e0
  · rw [Nat.zero_add]; exact h1.cell _ _ e1
  · rw [Nat.zero_add]; exact h1.cell _ _ e2

set_option maxRecDepth 100000 in
set_option maxHeartbeats 4000000 in
theorem copy_step (ks : List It) (IH : ∀ k ∈ ks, CopyAt k.kids) : CopyAt ks := by
  intro a cap w hk hn
  have hmx : Tryz.prog.follows .mixedOrders = true := by kernel_rfl
  have HI := Lib.hid IH
  have HK := Lib.hid hk
  clear IH hk
  obtain ⟨n, en⟩ : ∃ n, ks.length = n := ⟨_, rfl⟩
  have hfin := Lib.hid (show ∀ W, RowI W w.heap.size n ks n → Below w.heap.size w W → CopyP ks w (.returned (.slice (some ⟨w.heap.size, 0, none⟩) n n)) W from fun W h1 h2 =>
    ⟨some ⟨w.heap.size, 0, none⟩, n, by rw [en], .inr ⟨w.heap.size, 0, rfl, Nat.le_refl _, RowI.done (n := n) (by rw [en]; exact h1)⟩, h2⟩)
  rw [en] at hn ⊢
  replace en := Lib.hid en
  obtain ⟨cs, hcs, hmk⟩ := run_mkItems n hn w
  have LG := Has.new w 29 cs
  have Q := (Below.refl w.heap.size w).alloc (Nat.le_refl _) (.cells cs 29)
  obtain ⟨W1, hW1⟩ : ∃ W1, w.alloc (.cells cs 29) = W1 := ⟨_, rfl⟩
  rw [hW1] at LG Q hmk
  replace hcs := Lib.hid hcs
  replace LG := Lib.hid LG
  replace Q := Lib.hid Q
  replace hW1 := Lib.hid hW1
  go_enter Tryz.func26, Tryz.ntmps26
  go_wp2_with fail
  clear hmk
  go_loopw [11] (fun i wr => ∃ k : Nat, k ≤ n ∧ i = .int .i64 (k : Int) ∧ RowI wr w.heap.size n ks k ∧ Below w.heap.size w wr) (fun i _ => n - (intOf i).toNat)
  case atStart => exact ⟨0, by omega, rfl, ⟨cs, LG.out, hcs.out, fun j x hj => absurd hj (by omega)⟩, Q.out⟩
  case round =>
    clear LG Q hcs hW1
    obtain ⟨k, hkn, rfl, hrow, Q⟩ := hrel
    by_cases hk5 : k < n
    · have hkI : (k : Int) < (n : Int) := by omega
      have hk0 : (0 : Int) ≤ (k : Int) := by omega
      obtain ⟨g, o, rfl, hK⟩ := HK.out.resolve_left (fun h => by have h2 := en.out; rw [h] at h2; simp at h2; omega)
      obtain ⟨kx, hkx⟩ : ∃ kx, ks[k]? = some kx := ⟨_, List.getElem?_eq_getElem (by have := en.out; omega)⟩
      have hm : kx ∈ ks := List.mem_of_getElem? hkx
      obtain ⟨v0, v1, v2, e0, e1, e2, hi⟩ := hK.get k _ hkx
      obtain ⟨a1, cap1, hv, hn1, hs1, hkk⟩ := hi.open
      injection hv with hv
      injection hv with hv
      injection hv with q0 hv
      injection hv with q1 hv
      injection hv with q2 hv
      subst q0 q1 q2
      replace e0 := (Q.cell (p := ⟨g, _, none⟩) (ltCell e0)).trans e0
      replace e1 := (Q.cell (p := ⟨g, _, none⟩) (ltCell e1)).trans e1
      replace e2 := (Q.cell (p := ⟨g, _, none⟩) (ltCell e2)).trans e2
      have q := (Below.refl wr.heap.size wr).alloc (Nat.le_refl _) (.cells #[.bool kx.list, .string kx.bytes, .slice a1 kx.kids.length cap1] 29)
      have LB := Has.new wr 29 #[.bool kx.list, .string kx.bytes, .slice a1 kx.kids.length cap1]
      have hkk' : KidsIn w kx.kids a1 := hkk
      have HC := Lib.hid (HI.out kx hm a1 cap1 _ (hkk'.later (Q.trans (q.mono Q.size))) hn1)
      have NX := Has.new wr 29 #[.bool false, .string ⟨#[]⟩, .slice none 0 0]
      have x0 := NX.cell 0 _ rfl
      have x1 := NX.cell 1 _ rfl
      have x2 := NX.cell 2 _ rfl
      have f0 := NX.frozen 0
      have f1 := NX.frozen 1
      have f2 := NX.frozen 2
      have y0 := LB.cell 0 _ rfl
      have y1 := LB.cell 1 _ rfl
      have y2 := LB.cell 2 _ rfl
      have z2 := LB.frozen 2
      have lg := ltCell e0
      have hxs := Lib.hid (And.intro hkx (And.intro hn1 hs1))
      have HE := Lib.hid (show ItemS wr (fun _ => False) (.mk true ⟨#[]⟩ []) (.agg #[.bool true, .string ⟨#[]⟩, .slice none 0 0]) from by unfold ItemS; exact ⟨none, 0, rfl, by simp, by decide, .inl rfl⟩)
      replace NX := Lib.hid NX
      replace LB := Lib.hid LB
      replace q := Lib.hid q
      replace Q := Lib.hid Q
      replace hrow := Lib.hid hrow
      clear hi hK HK hkk hkk' hkx hn1 hs1 HI hm HE
      go_wp2_with fail
      refine HC.out.mono ?_
      rintro _ W3 ⟨a3, cap3, rfl, hk3, q3⟩
      obtain ⟨cur, r1, r2, r3⟩ := hrow.out
      have hGlt := r1.lt
      have hwr3 : Below wr.heap.size wr W3 := q.out.trans (q3.mono q.out.size)
      have R3 : Has W3 w.heap.size 29 cur := r1.below hwr3 r1.lt
      have B3 : Has W3 wr.heap.size 29 #[.bool kx.list, .string kx.bytes, .slice a1 kx.kids.length cap1] := LB.out.later q3
      have hGB : w.heap.size ≠ wr.heap.size := by omega
      have y0 := B3.cell 0 _ rfl
      have y1 := B3.cell 1 _ rfl
      have y2 := B3.cell 2 _ rfl
      have z2 := B3.frozen 2
      have i0 : k * 3 < cur.size := by rw [r2]; omega
      have i1 : k * 3 + 1 < cur.size := by rw [r2]; omega
      have i2 : k * 3 + 2 < cur.size := by rw [r2]; omega
      have g0 := R3.cell (k * 3) _ (Array.getElem?_eq_getElem i0)
      have g1 := R3.cell (k * 3 + 1) _ (Array.getElem?_eq_getElem i1)
      have g2 := R3.cell (k * 3 + 2) _ (Array.getElem?_eq_getElem i2)
      have h0 := R3.frozen (k * 3)
      have h1 := R3.frozen (k * 3 + 1)
      have h2 := R3.frozen (k * 3 + 2)
      generalize cur[k * 3] = gv0 at *
      generalize cur[k * 3 + 1] = gv1 at *
      generalize cur[k * 3 + 2] = gv2 at *
      obtain ⟨W5, hW5⟩ : ∃ W5, (((W3.setCell ⟨wr.heap.size, 2, none⟩ (.slice a3 kx.kids.length cap3)).setCell ⟨w.heap.size, k * 3, none⟩ (.bool kx.list)).setCell ⟨w.heap.size, k * 3 + 1, none⟩ (.string kx.bytes)).setCell ⟨w.heap.size, k * 3 + 2, none⟩ (.slice a3 kx.kids.length cap3) = W5 := ⟨_, rfl⟩
      have hset : ∀ b, b ≠ wr.heap.size → b ≠ w.heap.size → W5.heap[b]? = W3.heap[b]? := fun b hb hb' => by
        rw [← hW5]
        exact (Below.heap_setCell _ _ _ b (by exact hb')).trans ((Below.heap_setCell _ _ _ b (by exact hb')).trans ((Below.heap_setCell _ _ _ b (by exact hb')).trans (Below.heap_setCell _ _ _ b (by exact hb))))
      have R5 : Has W5 w.heap.size 29 (((cur.setIfInBounds (k * 3) (.bool kx.list)).setIfInBounds (k * 3 + 1) (.string kx.bytes)).setIfInBounds (k * 3 + 2) (.slice a3 kx.kids.length cap3)) := by
        rw [← hW5]
        exact (((R3.other (p := ⟨wr.heap.size, 2, none⟩) hGB _).set (k * 3) _).set (k * 3 + 1) _).set (k * 3 + 2) _
      have Q5 := Lib.hid (show Below w.heap.size w W5 by
        have q0 := Q.out.trans (hwr3.mono Q.out.size)
        rw [← hW5]
        exact (((q0.setCell (p := ⟨wr.heap.size, 2, none⟩) (by simp; omega) _).setCell (p := ⟨w.heap.size, k * 3, none⟩) (Nat.le_refl _) _).setCell (p := ⟨w.heap.size, k * 3 + 1, none⟩) (Nat.le_refl _) _).setCell (p := ⟨w.heap.size, k * 3 + 2, none⟩) (Nat.le_refl _) _)
      have hK5 : ItemS W5 (fun b => w.heap.size < b) kx (.agg #[.bool kx.list, .string kx.bytes, .slice a3 kx.kids.length cap3]) := ItemS.mk' hxs.out.2.1 hxs.out.2.2 (KidsInS.keep (S := fun b => (wr.alloc (.cells #[.bool kx.list, .string kx.bytes, .slice a1 kx.kids.length cap1] 29)).heap.size ≤ b) (fun b hb _ => hset b (by simp at hb; omega) (by simp at hb; omega)) (fun b hb _ => by simp at hb; omega) hk3)
      have hrow5 := Lib.hid (show RowI W5 w.heap.size n ks (k + 1) from ⟨_, R5, by simp [r2], fun j x hj hx => by
        by_cases hjk : j = k
        · subst hjk
          rw [hxs.out.1] at hx
          injection hx with hx
          subst hx
          refine ⟨_, _, _, ?_, ?_, ?_, hK5⟩
          · rw [Array.getElem?_setIfInBounds_ne (by omega), Array.getElem?_setIfInBounds_ne (by omega), Array.getElem?_setIfInBounds_self_of_lt (by simpa using i0)]
          · rw [Array.getElem?_setIfInBounds_ne (by omega), Array.getElem?_setIfInBounds_self_of_lt (by simpa using i1)]
          · rw [Array.getElem?_setIfInBounds_self_of_lt (by simpa using i2)]
        · obtain ⟨u0, u1, u2, t0, t1, t2, hi⟩ := r3 j x (by omega) hx
          refine ⟨u0, u1, u2, ?_, ?_, ?_, hi.keep (fun b hb hl => (hset b (by omega) (by omega)).trans (hwr3.block b hl)) (fun b hb _ => hb)⟩
          · rw [Array.getElem?_setIfInBounds_ne (by omega), Array.getElem?_setIfInBounds_ne (by omega), Array.getElem?_setIfInBounds_ne (by omega)]; exact t0
          · rw [Array.getElem?_setIfInBounds_ne (by omega), Array.getElem?_setIfInBounds_ne (by omega), Array.getElem?_setIfInBounds_ne (by omega)]; exact t1
          · rw [Array.getElem?_setIfInBounds_ne (by omega), Array.getElem?_setIfInBounds_ne (by omega), Array.getElem?_setIfInBounds_ne (by omega)]; exact t2⟩)
      clear hset R5 hK5 hwr3 R3 B3 r1 r2 r3 hk3 q3 i0 i1 i2 hGlt hrow q Q HC x0 x1 x2 f0 f1 f2 NX LB hxs e0 e1 e2 lg
      replace hW5 := Lib.hid hW5
      go_wp2_with fail
      rw [hW5.out]
      exact ⟨⟨k + 1, by omega, by simp, hrow5.out, Q5.out⟩, by simp [intOf]; omega⟩
    · obtain rfl : k = n := by omega
      have hE := Lib.hid (hfin.out _ hrow Q)
      clear hrow Q
      go_wp2_with fail
      go_ret
      exact hE.out
theorem copy_any (ks : List It) : CopyAt ks := by
  have H : ∀ t : It, CopyAt t.kids := It.induct (fun t ih => copy_step t.kids ih)
  exact H (.mk true ⟨#[]⟩ ks)

/-- What List comes to. -/
def ListP (ks : List It) (W : World) (e : Ending) (W' : World) : Prop :=
  ∃ a cap, e = .returned (.agg #[.bool true, .string ⟨#[]⟩, .slice a ks.length cap]) ∧ ItemS W' (fun b => W.heap.size ≤ b) (.mk true ⟨#[]⟩ ks) (.agg #[.bool true, .string ⟨#[]⟩, .slice a ks.length cap]) ∧ Below W.heap.size W W'

set_option maxRecDepth 100000 in
set_option maxHeartbeats 2000000 in
theorem list_any (ks : List It) (a : Option Addr) (cap : Nat) (w : World) (hk : KidsIn w ks a) (hn : ks.length ≤ 1099511627776) : Calls Tryz.prog 9 #[.slice a ks.length cap] w (ListP ks w) := by
  have q0 := (Below.refl w.heap.size w).alloc (Nat.le_refl _) (.cells #[.bool false, .string ⟨#[]⟩, .slice none 0 0] 29)
  have HC := Lib.hid (copy_any ks a cap _ (hk.later q0) hn)
  have NX := Lib.hid (Has.new w 29 #[.bool false, .string ⟨#[]⟩, .slice none 0 0])
  replace hn := Lib.hid hn
  replace q0 := Lib.hid q0
  go_enter Tryz.func9, Tryz.ntmps9
  go_wp2_with fail
  refine HC.out.mono ?_
  rintro _ W2 ⟨a2, cap2, rfl, hk2, q2⟩
  have N2 := NX.out.later q2
  have q := q0.out.trans (q2.mono q0.out.size)
  have f0 := N2.frozen 0
  have f1 := N2.frozen 1
  have f2 := N2.frozen 2
  have x0 := N2.cell 0 _ rfl
  have x1 := N2.cell 1 _ rfl
  have x2 := N2.cell 2 _ rfl
  have S := ((N2.set 0 (.bool true)).set 1 (.string ⟨#[]⟩)).set 2 (.slice a2 ks.length cap2)
  have q5 := ((q.setCell (p := ⟨w.heap.size, 0, none⟩) (Nat.le_refl _) (.bool true)).setCell (p := ⟨w.heap.size, 1, none⟩) (Nat.le_refl _) (.string ⟨#[]⟩)).setCell (p := ⟨w.heap.size, 2, none⟩) (Nat.le_refl _) (.slice a2 ks.length cap2)
  have hI : ItemS _ (fun b => w.heap.size ≤ b) (.mk true ⟨#[]⟩ ks) (.agg #[.bool true, .string ⟨#[]⟩, .slice a2 ks.length cap2]) := ItemS.mk' (t := .mk true ⟨#[]⟩ ks) hn.out (show 0 ≤ 140737488355328 by omega) (KidsInS.keep (X := ((W2.setCell ⟨w.heap.size, 0, none⟩ (.bool true)).setCell ⟨w.heap.size, 1, none⟩ (.string ⟨#[]⟩)).setCell ⟨w.heap.size, 2, none⟩ (.slice a2 ks.length cap2)) (fun b hb _ => by
    have hne : b ≠ w.heap.size := by simp at hb; omega
    exact (Below.heap_setCell _ _ _ b hne).trans ((Below.heap_setCell _ _ _ b hne).trans (Below.heap_setCell _ _ _ b hne))) (fun b hb _ => by simp at hb; omega) hk2)
  have hE := Lib.hid (show ListP ks w (.returned (.agg #[.bool true, .string ⟨#[]⟩, .slice a2 ks.length cap2])) _ from ⟨a2, cap2, rfl, hI, q5⟩)
  clear hI q5 q q2 hk2 HC
  replace N2 := Lib.hid N2
  replace S := Lib.hid S
  generalize ks.length = n at *
  go_wp2_with fail
  have y0 := S.out.cell 0 _ rfl
  have y1 := S.out.cell 1 _ rfl
  have y2 := S.out.cell 2 _ rfl
  exact bodyPost_ret (v := .agg #[.bool true, .string ⟨#[]⟩, .slice a2 n cap2]) (by simp [results, Tryz.results9, go_sem, y0, y1, y2]) rfl hE.out
end Go.Proofs.YtbbpmcebakckaaaGreatDoor

/- Value. Conditions: the item lies in memory. -/
namespace Go.Proofs.YtbbpmcebakckaaaGreatDoor
open Go Go.RowKit
attribute [local go_sem] Oper.semAt_some Grows wide_fn

theorem txt_at (l : List UInt8) (hl : l.length ≤ 140737488355328) (W : World) : ItemAt W (.mk false ⟨l.toArray⟩ []) (txtV l) := by
  unfold ItemAt
  exact ⟨none, 0, rfl, by simp, hl, .inl rfl⟩
theorem digs_w {a : Nat} (ha : W256 a) : (digs a).length ≤ 32 := digs_length (k := 32) (by
  have : (256 : Nat) ^ 32 = 115792089237316195423570985008687907853269984665640564039457584007913129639936 := by decide
  unfold W256 at ha; omega)

/-- The word that an item may be, and whether it is. -/
def valW (t : It) : Nat := fromB t.bytes.data.toList
noncomputable def valB (t : It) : Bool := sameI t (.mk false ⟨(digs (valW t)).toArray⟩ [])
noncomputable def valN (t : It) : Nat := if valB t then valW t else 0
theorem valW_lt (t : It) : W256 (valW t) := fromB_lt _

set_option maxRecDepth 100000 in
set_option maxHeartbeats 4000000 in
theorem value_any (t : It) (v : Value) (w : World) (ht : ItemAt w t v) : Calls Tryz.prog 12 #[v] w fun e w' => e = .returned (.tuple #[wv (valN t), .bool (valB t)]) ∧ Below w.heap.size w w' := by
  have hmx : Tryz.prog.follows .mixedOrders = true := by kernel_rfl
  obtain ⟨a, cap, rfl, hn, hs, hk⟩ := ht.open
  have hfb : Ret Tryz.prog 32 #[.string t.bytes] (wv (valW t)) := fromBytes_ret t.bytes hs
  have hnu := Lib.hid (number_ret (valW t) (valW_lt t))
  have hsm := Lib.hid (fun X (hX : Below w.heap.size w X) => psame t (.mk false ⟨(digs (valW t)).toArray⟩ []) _ _ X (ht.later hX) (txt_at (digs (valW t)) (by have := digs_w (valW_lt t); omega) X))
  have hvb := Lib.hid (show sameI t (.mk false ⟨(digs (valW t)).toArray⟩ []) = valB t from rfl)
  have hvn := Lib.hid (show valN t = if valB t then valW t else 0 from rfl)
  rw [hvb.out] at hsm
  clear ht hk hn
  have Q := ((Below.refl w.heap.size w).alloc (Nat.le_refl _) (.cells #[.bool t.list, .string t.bytes, .slice a t.kids.length cap] 29)).alloc (by simp) (.cells #[.int .u64 0, .int .u64 0, .int .u64 0, .int .u64 0] 25)
  have LX := (Has.new w 29 #[.bool t.list, .string t.bytes, .slice a t.kids.length cap]).alloc (.cells #[.int .u64 0, .int .u64 0, .int .u64 0, .int .u64 0] 25)
  have LR := Has.new (w.alloc (.cells #[.bool t.list, .string t.bytes, .slice a t.kids.length cap] 29)) 25 #[.int .u64 0, .int .u64 0, .int .u64 0, .int .u64 0]
  simp only [World.size_alloc] at LR
  obtain ⟨W1, hW1⟩ : ∃ W1, (w.alloc (.cells #[.bool t.list, .string t.bytes, .slice a t.kids.length cap] 29)).alloc (.cells #[.int .u64 0, .int .u64 0, .int .u64 0, .int .u64 0] 25) = W1 := ⟨_, rfl⟩
  rw [hW1] at LX LR Q
  replace hfb := Lib.hid hfb
  generalize t.bytes = b at *
  generalize t.kids.length = n at *
  generalize t.list = tl at *
  generalize valB t = vb at *
  generalize valN t = vn at *
  generalize valW t = vw at *
  generalize digs vw = ds at *
  have c0 := LX.cell 0 _ rfl
  have c1 := LX.cell 1 _ rfl
  have c2 := LX.cell 2 _ rfl
  replace LX := Lib.hid LX
  replace LR := Lib.hid LR
  replace Q := Lib.hid Q
  replace hs := Lib.hid hs
  unfold wv at hfb hnu
  unfold wv
  go_enter Tryz.func12, Tryz.ntmps12
  go_wp2_with fail
  refine (hfb.out _).mono ?_
  rintro _ W2 ⟨rfl, q⟩
  have NX := Has.new W2 25 #[.int .u64 0, .int .u64 0, .int .u64 0, .int .u64 0]
  have x0 := NX.cell 0 _ rfl
  have x1 := NX.cell 1 _ rfl
  have x2 := NX.cell 2 _ rfl
  have x3 := NX.cell 3 _ rfl
  have f0 := NX.frozen 0
  have f1 := NX.frozen 1
  have f2 := NX.frozen 2
  have f3 := NX.frozen 3
  replace NX := Lib.hid NX
  obtain ⟨W3, hW3⟩ : ∃ W3, W2.alloc (.cells #[.int .u64 (lim vw 0), .int .u64 (lim vw 1), .int .u64 (lim vw 2), .int .u64 (lim vw 3)] 25) = W3 := ⟨_, rfl⟩
  have q3 : Below W2.heap.size W2 W3 := by rw [← hW3]; exact (Below.refl _ _).alloc (Nat.le_refl _) _
  have LW : Has W3 W2.heap.size 25 #[.int .u64 (lim vw 0), .int .u64 (lim vw 1), .int .u64 (lim vw 2), .int .u64 (lim vw 3)] := by rw [← hW3]; exact Has.new _ _ _
  have LX3 := (LX.out.later q).later q3
  have LR3 := (LR.out.later q).later q3
  have Q3 := (Q.out.trans (q.mono Q.out.size)).trans (q3.mono (Q.out.trans (q.mono Q.out.size)).size)
  clear q q3 c0 c1 c2 LX LR Q hfb hW1
  replace LW := Lib.hid LW
  replace LX3 := Lib.hid LX3
  replace LR3 := Lib.hid LR3
  replace Q3 := Lib.hid Q3
  go_wp2_with fail
  clear hW3 x0 x1 x2 x3 f0 f1 f2 f3 NX
  have c0 : ∀ X : Ext W3, X.w.cell? ⟨w.heap.size, 0, none⟩ = some (.bool tl) := fun X => (LX3.out.later X.below).cell 0 _ rfl
  have c1 : ∀ X : Ext W3, X.w.cell? ⟨w.heap.size, 1, none⟩ = some (.string b) := fun X => (LX3.out.later X.below).cell 1 _ rfl
  have c2 : ∀ X : Ext W3, X.w.cell? ⟨w.heap.size, 2, none⟩ = some (.slice a n cap) := fun X => (LX3.out.later X.below).cell 2 _ rfl
  have e0 : ∀ X : Ext W3, X.w.cell? ⟨W2.heap.size, 0, none⟩ = some (.int .u64 (lim vw 0)) := fun X => (LW.out.later X.below).cell 0 _ rfl
  have e1 : ∀ X : Ext W3, X.w.cell? ⟨W2.heap.size, 1, none⟩ = some (.int .u64 (lim vw 1)) := fun X => (LW.out.later X.below).cell 1 _ rfl
  have e2 : ∀ X : Ext W3, X.w.cell? ⟨W2.heap.size, 2, none⟩ = some (.int .u64 (lim vw 2)) := fun X => (LW.out.later X.below).cell 2 _ rfl
  have e3 : ∀ X : Ext W3, X.w.cell? ⟨W2.heap.size, 3, none⟩ = some (.int .u64 (lim vw 3)) := fun X => (LW.out.later X.below).cell 3 _ rfl
  have HS := Lib.hid (show ∀ X : Ext W3, Calls Tryz.prog 16 #[.agg #[.bool tl, .string b, .slice a n cap], txtV ds] X.w fun e w'' => e = .returned (.bool vb) ∧ ∃ y : Ext W3, w'' = y.w from fun X =>
    (hsm.out X.w (Q3.out.trans (X.below.mono Q3.out.size))).mono fun _ w' ⟨he, hb⟩ => ⟨he, ⟨w', X.2.trans (hb.mono X.2.size)⟩, rfl⟩)
  refine wp_region_quietL (C := Grows W3) hmx (by kernel_rfl) (grows_refl W3) ?_
  repeat (go_big_quiet_step (first | (with_reducible exact Ret.at hnu.out _) | (with_reducible exact HS.out _)))
  refine wpQuiet_nil ?_
  rintro _ ⟨X, rfl⟩
  have LW4 := LW.out.later X.below
  have LR4 := LR3.out.later X.below
  have Q4 := Lib.hid (Q3.out.trans (X.below.mono Q3.out.size))
  clear c0 c1 c2 e0 e1 e2 e3 HS LX3 LR3 LW Q3 hsm hnu
  have x0 := LR4.cell 0 _ rfl
  have x1 := LR4.cell 1 _ rfl
  have x2 := LR4.cell 2 _ rfl
  have x3 := LR4.cell 3 _ rfl
  have f0 := LR4.frozen 0
  have f1 := LR4.frozen 1
  have f2 := LR4.frozen 2
  have f3 := LR4.frozen 3
  have y0 := LW4.cell 0 _ rfl
  have y1 := LW4.cell 1 _ rfl
  have y2 := LW4.cell 2 _ rfl
  have y3 := LW4.cell 3 _ rfl
  cases vb with
  | true =>
    have hv := Lib.hid (show vn = vw from hvn.out)
    have S := Lib.hid ((((LR4.set 0 (.int .u64 (lim vw 0))).set 1 (.int .u64 (lim vw 1))).set 2 (.int .u64 (lim vw 2))).set 3 (.int .u64 (lim vw 3)))
    replace LR4 := Lib.hid LR4
    replace LW4 := Lib.hid LW4
    go_wp2_with fail
    have z0 := S.out.cell 0 _ rfl
    have z1 := S.out.cell 1 _ rfl
    have z2 := S.out.cell 2 _ rfl
    have z3 := S.out.cell 3 _ rfl
    refine bodyPost_ret (v := .tuple #[.agg #[.int .u64 (lim vw 0), .int .u64 (lim vw 1), .int .u64 (lim vw 2), .int .u64 (lim vw 3)], .bool true]) (by simp [results, Tryz.results12, go_sem, z0, z1, z2, z3]) rfl ⟨by rw [hv.out], ?_⟩
    exact (((Q4.out.setCell (by simp) _).setCell (by simp) _).setCell (by simp) _).setCell (by simp) _
  | false =>
    have hv := Lib.hid (show vn = 0 from hvn.out)
    have S := Lib.hid ((((LR4.set 0 (.int .u64 0)).set 1 (.int .u64 0)).set 2 (.int .u64 0)).set 3 (.int .u64 0))
    replace LR4 := Lib.hid LR4
    replace LW4 := Lib.hid LW4
    go_wp2_with fail
    have z0 := S.out.cell 0 _ rfl
    have z1 := S.out.cell 1 _ rfl
    have z2 := S.out.cell 2 _ rfl
    have z3 := S.out.cell 3 _ rfl
    refine bodyPost_ret (v := .tuple #[.agg #[.int .u64 0, .int .u64 0, .int .u64 0, .int .u64 0], .bool false]) (by simp [results, Tryz.results12, go_sem, z0, z1, z2, z3]) rfl ⟨by rw [hv.out]; rfl, ?_⟩
    exact (((Q4.out.setCell (by simp) _).setCell (by simp) _).setCell (by simp) _).setCell (by simp) _
end Go.Proofs.YtbbpmcebakckaaaGreatDoor

/- Part. -/
import Derived.TacticsIn
import Derived.LoopIn
import Derived.Test.YtkicmbdjihjgfaaGreatDoorH05
import Derived.Test.YtkicmbdjihjgfaaGreatDoorH02
set_option maxRecDepth 100000
set_option maxHeartbeats 16000000
namespace Go.Proofs.YtkicmbdjihjgfaaGreatDoor
open Go Go.RowKit
attribute [local go_sem] Oper.semAt_some Grows wide_fn
theorem both_step (la lb : List Sl) (i j k : Nat) (h : i < la.length ∨ j < lb.length) (hb : bothL (la.drop i) (lb.drop j) = (bothL la lb).drop k) :
  (∃ x, la[i]? = some x ∧ nextN la lb i j = -1 ∧ (bothL la lb)[k]? = some ⟨x.1, x.2, 0, false⟩ ∧ bothL (la.drop (i + 1)) (lb.drop j) = (bothL la lb).drop (k + 1)) ∨
  (∃ y, lb[j]? = some y ∧ nextN la lb i j = 1 ∧ (bothL la lb)[k]? = some ⟨y.1, 0, y.2, true⟩ ∧ bothL (la.drop i) (lb.drop (j + 1)) = (bothL la lb).drop (k + 1)) ∨
  (∃ x y, la[i]? = some x ∧ lb[j]? = some y ∧ nextN la lb i j = 0 ∧ x.1 = y.1 ∧ (bothL la lb)[k]? = some ⟨x.1, x.2, y.2, true⟩ ∧ bothL (la.drop (i + 1)) (lb.drop (j + 1)) = (bothL la lb).drop (k + 1)) := by
 have hd : ∀ (p : Pr) (r : List Pr), (bothL la lb).drop k = p :: r → (bothL la lb)[k]? = some p ∧ r = (bothL la lb).drop (k + 1) := fun p r e => by
  have e0 := congrArg (fun l => l[0]?) e
  simp only [List.getElem?_drop, Nat.add_zero, List.getElem?_cons_zero] at e0
  refine ⟨e0, ?_⟩
  have e1 := congrArg List.tail e
  simpa using e1.symm
 rcases hx : la[i]? with _ | x
 ·rcases hy : lb[j]? with _ | y
  ·have := List.getElem?_eq_none_iff.1 hx
   have := List.getElem?_eq_none_iff.1 hy
   omega
  ·right; left
   have hj := (List.getElem?_eq_some_iff.1 hy).1
   have ea : la.drop i = [] := List.drop_eq_nil_of_le (List.getElem?_eq_none_iff.1 hx)
   have eb : lb.drop j = y :: lb.drop (j + 1) := by rw [List.drop_eq_getElem_cons hj, (List.getElem?_eq_some_iff.1 hy).2]
   rw [ea, eb, bothL] at hb
   obtain ⟨h1, h2⟩ := hd _ _ hb.symm
   exact ⟨y, rfl, by unfold nextN; rw [hx], h1, by rw [ea]; exact h2⟩
 ·have hi := (List.getElem?_eq_some_iff.1 hx).1
  have ea : la.drop i = x :: la.drop (i + 1) := by rw [List.drop_eq_getElem_cons hi, (List.getElem?_eq_some_iff.1 hx).2]
  rcases hy : lb[j]? with _ | y
  ·left
   have eb : lb.drop j = [] := List.drop_eq_nil_of_le (List.getElem?_eq_none_iff.1 hy)
   rw [ea, eb, bothL] at hb
   obtain ⟨h1, h2⟩ := hd _ _ hb.symm
   exact ⟨x, rfl, by unfold nextN; rw [hx, hy], h1, by rw [eb]; exact h2⟩
  ·have hj := (List.getElem?_eq_some_iff.1 hy).1
   have eb : lb.drop j = y :: lb.drop (j + 1) := by rw [List.drop_eq_getElem_cons hj, (List.getElem?_eq_some_iff.1 hy).2]
   rw [ea, eb, bothL] at hb
   by_cases c1 : x.1 < y.1
   ·left
    rw [if_pos c1] at hb
    obtain ⟨h1, h2⟩ := hd _ _ hb.symm
    exact ⟨x, rfl, by unfold nextN; rw [hx, hy]; show wcmp x.1 y.1 = -1; unfold wcmp; rw [if_pos c1], h1, by rw [eb]; exact h2⟩
   ·rw [if_neg c1] at hb
    by_cases c2 : y.1 < x.1
    ·right; left
     rw [if_pos c2] at hb
     obtain ⟨h1, h2⟩ := hd _ _ hb.symm
     exact ⟨y, rfl, by unfold nextN; rw [hx, hy]; show wcmp x.1 y.1 = 1; unfold wcmp; rw [if_neg c1, if_pos c2], h1, by rw [ea]; exact h2⟩
    ·right; right
     rw [if_neg c2] at hb
     obtain ⟨h1, h2⟩ := hd _ _ hb.symm
     exact ⟨x, y, rfl, rfl, by unfold nextN; rw [hx, hy]; show wcmp x.1 y.1 = 0; unfold wcmp; rw [if_neg c1, if_neg c2], by omega, h1, h2⟩
def Kt (n : Nat) (L : List Nat) (A X : World) : Prop := Below n A X ∧ ∀ b ∈ L, b < A.heap.size → X.heap[b]? = A.heap[b]?
theorem Kt.refl (n : Nat) (L : List Nat) (A : World) : Kt n L A A := ⟨Below.refl _ _, fun _ _ _ => rfl⟩
theorem Kt.trans {n : Nat} {L : List Nat} {A B C : World} (h : Kt n L A B) (k : Kt n L B C) : Kt n L A C := ⟨h.1.trans k.1, fun b hb hl => (k.2 b hb (Nat.lt_of_lt_of_le hl h.1.size)).trans (h.2 b hb hl)⟩
theorem Kt.grow {n : Nat} {L : List Nat} {A X : World} (h : Below A.heap.size A X) (hn : n ≤ A.heap.size) : Kt n L A X := ⟨h.mono hn, fun b _ hl => h.block b hl⟩
theorem Kt.has {n : Nat} {L : List Nat} {A X : World} (h : Kt n L A X) {B : Nat} {t : TypeId} {cs : Array Value} (hA : Has A B t cs) (hB : B ∈ L) : Has X B t cs := (h.2 B hB hA.lt).trans hA
abbrev prV (p : Pr) : Value := .agg #[.int .u64 (lim p.fst 0), .int .u64 (lim p.fst 1), .int .u64 (lim p.fst 2), .int .u64 (lim p.fst 3), .int .u64 (lim p.snd 0), .int .u64 (lim p.snd 1), .int .u64 (lim p.snd 2), .int .u64 (lim p.snd 3), .bool p.ins]
def EB (la lb : List Sl) (k : Nat) (args : Array Value) (_ : World) : Prop := ∃ p, (bothL la lb)[k]? = some p ∧ args = #[wv p.key, prV p]
def Gr (A X : World) : Prop := Below A.heap.size A X
theorem Gr.keeps (A X : World) (h : Gr A X) (b : Nat) (o : Obj) (ho : A.heap[b]? = some o) (_ : o.isCells = false) : X.heap[b]? = some o := (h.block b (Array.getElem?_eq_some_iff.1 ho).1).trans ho
theorem roundIn_any {n m : Nat} {P : Program} {l : Nat} {f : FuncId} {tmps : Array Value} {assign body : Code} {w : World} {R : Ending → World → Prop} (h : RoundIn Fence.wide n P l f tmps assign body w R) : RoundIn Fence.wide m P l f tmps assign body w R :=
 ⟨h.1, fun c cs _ => h.2 c cs (room_wide _)⟩
theorem both_seq (n : Nat) (la lb : List Sl) (sa sb : Value) (B1 B2 C1 C2 : Nat) (w0 w : World) (ha : SlotsAt w0 sa la) (hb : SlotsAt w0 sb lb) (hw : Below w0.heap.size w0 w)
  (hC1 : Has w C1 174 #[.int .i64 ((la.length : Nat) : Int), .func (.func 154) #[] #[.pointer (some ⟨B1, 0, none⟩)], .func (.func 155) #[] #[.pointer (some ⟨B1, 0, none⟩)], .func (.func 156) #[] #[]]) (hC2 : Has w C2 174 #[.int .i64 ((lb.length : Nat) : Int), .func (.func 154) #[] #[.pointer (some ⟨B2, 0, none⟩)], .func (.func 155) #[] #[.pointer (some ⟨B2, 0, none⟩)], .func (.func 156) #[] #[]]) (hB1 : Has w B1 29 #[sa]) (hB2 : Has w B2 29 #[sb]) (hla : la.length ≤ 1099511627776) (hlb : lb.length ≤ 1099511627776) :
  SeqC Fence.wide n Tryz.prog 164 #[.pointer (some ⟨C1, 0, none⟩), .pointer (some ⟨C2, 0, none⟩)] (EB la lb) (Kt w0.heap.size [C1, C2, B1, B2]) Gr (bothL la lb).length w := by
 intro ll J Jx W hW hJA hJxA hY h0
 have hmx : Tryz.prog.follows .mixedOrders = true := by kernel_rfl
 have HW0 := hid (hw.trans (hW.mono hw.size))
 have HJA := hid hJA
 have HY := hid hY
 have HH := hid (show Has W C1 174 #[.int .i64 ((la.length : Nat) : Int), .func (.func 154) #[] #[.pointer (some ⟨B1, 0, none⟩)], .func (.func 155) #[] #[.pointer (some ⟨B1, 0, none⟩)], .func (.func 156) #[] #[]] ∧ Has W C2 174 #[.int .i64 ((lb.length : Nat) : Int), .func (.func 154) #[] #[.pointer (some ⟨B2, 0, none⟩)], .func (.func 155) #[] #[.pointer (some ⟨B2, 0, none⟩)], .func (.func 156) #[] #[]] ∧ Has W B1 29 #[sa] ∧ Has W B2 29 #[sb] from ⟨hC1.later hW, hC2.later hW, hB1.later hW, hB2.later hW⟩)
 have HA := hid ha
 have HB := hid hb
 have HL := hid (And.intro hla hlb)
 have HJ0 := hid h0
 clear hJA hJxA hY hC1 hC2 hB1 hB2 ha hb hw hW hla hlb h0
 refine callsIn_of_wp Tryz.func164 rfl trivial ?_ rfl
 simp only [Tryz.ntmps164, List.size_toArray, List.length_cons, List.length_nil, Nat.reduceAdd, Nat.reduceSub, Array.replicate_succ, Array.replicate_zero, List.push_toArray, List.append_toArray, List.nil_append, List.cons_append]
 gi_wp2_with fail
 gi_loopw [4, 5] (fun iv jv wr => ∃ k i j : Nat, iv = .int .i64 (i : Int) ∧ jv = .int .i64 (j : Int) ∧ i ≤ la.length ∧ j ≤ lb.length ∧ bothL (la.drop i) (lb.drop j) = (bothL la lb).drop k ∧ k ≤ (bothL la lb).length ∧ J k wr ∧ Kt w0.heap.size [C1, C2, B1, B2] W wr) (fun iv jv _ => (la.length - (intOf iv).toNat) + (lb.length - (intOf jv).toNat))
 case atStart => exact ⟨0, 0, 0, rfl, rfl, Nat.zero_le _, Nat.zero_le _, by simp, Nat.zero_le _, HJ0.out, Kt.refl _ _ _⟩
 case round =>
  obtain ⟨k, i, j, rfl, rfl, hi, hj, hb, hk, hJ, hkt⟩ := hrel
  have c10 := (hkt.has HH.out.1 (by simp)).cell 0 _ rfl
  have c20 := (hkt.has HH.out.2.1 (by simp)).cell 0 _ rfl
  by_cases hd : i < la.length ∨ j < lb.length
  ·have hst := both_step la lb i j k hd hb
   have HJ := hid hJ
   have HKT := hid hkt
   have HI := hid (And.intro hi hj)
   rcases hst with ⟨x, hx, hnx, hp, hbn⟩ | ⟨y, hy, hnx, hp, hbn⟩ | ⟨x, y, hx, hy, hnx, hxy, hp, hbn⟩
   ·have hil : i < la.length := (List.getElem?_eq_some_iff.1 hx).1
    have hiI : (i : Int) < (la.length : Int) := by omega
    have hib : (i : Int) ≤ 1099511627776 := by have := HL.out.1; omega
    have hjb : (j : Int) ≤ 1099511627776 := by have := HL.out.2; omega
    have hkN := hid (show k < (bothL la lb).length from (List.getElem?_eq_some_iff.1 hp).1)
    have QW := HW0.out.trans hkt.1
    have G1 := hid (hkt.has HH.out.1 (by simp))
    have G2 := hid (hkt.has HH.out.2.1 (by simp))
    have G3 := hid (hkt.has HH.out.2.2.1 (by simp))
    have G4 := hid (hkt.has HH.out.2.2.2 (by simp))
    have G5 := hid (HA.out.later QW)
    have G6 := hid (HB.out.later QW)
    have hw0 := hid (show w0.heap.size ≤ wr.heap.size from QW.size)
    have LK0 := (Has.new wr 28 #[.int .u64 0, .int .u64 0, .int .u64 0, .int .u64 0]).alloc (.cells #[.int .u64 0, .int .u64 0, .int .u64 0, .int .u64 0, .int .u64 0, .int .u64 0, .int .u64 0, .int .u64 0, .bool false] 191)
    have LX0 := Has.new (wr.alloc (.cells #[.int .u64 0, .int .u64 0, .int .u64 0, .int .u64 0] 28)) 191 #[.int .u64 0, .int .u64 0, .int .u64 0, .int .u64 0, .int .u64 0, .int .u64 0, .int .u64 0, .int .u64 0, .bool false]
    simp only [World.size_alloc] at LX0
    have q2 := (newA wr (.cells #[.int .u64 0, .int .u64 0, .int .u64 0, .int .u64 0] 28)).alloc (by simp) (.cells #[.int .u64 0, .int .u64 0, .int .u64 0, .int .u64 0, .int .u64 0, .int .u64 0, .int .u64 0, .int .u64 0, .bool false] 191)
    obtain ⟨W2, hW2⟩ : ∃ W2, (wr.alloc (.cells #[.int .u64 0, .int .u64 0, .int .u64 0, .int .u64 0] 28)).alloc (.cells #[.int .u64 0, .int .u64 0, .int .u64 0, .int .u64 0, .int .u64 0, .int .u64 0, .int .u64 0, .int .u64 0, .bool false] 191) = W2 := ⟨_, rfl⟩
    rw [hW2] at LK0 LX0 q2
    have HN0 := next_any W2 B1 B2 sa sb la lb (G3.out.later q2) (G4.out.later q2) (G5.out.later q2) (G6.out.later q2) i j hi hj
    rw [hnx] at HN0
    have HN := hid HN0
    have m0 := (G1.out.later q2).cell 0 _ rfl
    have m1 := (G1.out.later q2).cell 1 _ rfl
    have m2 := (G1.out.later q2).cell 2 _ rfl
    have m3 := (G1.out.later q2).cell 3 _ rfl
    have m4 := (G2.out.later q2).cell 0 _ rfl
    have m5 := (G2.out.later q2).cell 1 _ rfl
    have m6 := (G2.out.later q2).cell 2 _ rfl
    have m7 := (G2.out.later q2).cell 3 _ rfl
    have LK1 := hid LK0
    have LX1 := hid LX0
    have Hq2 := hid q2
    replace hp := hid hp
    replace hbn := hid hbn
    replace hx := hid hx
    clear LK0 LX0 q2 HN0 hnx hb hJ hkt QW hk
    gi_wp2_with fail
    clear m0 m1 m2 m3 m4 m5 m6 m7 hW2 c10 c20
    refine ⟨fun h => absurd h (by simp [Fence.wide]), (callsIn_free free_wide HN.out).mono ?_⟩
    rintro _ W3 ⟨rfl, q3⟩
    have LK := hid (LK1.out.later q3)
    have LX := hid (LX1.out.later q3)
    have QQ := hid (Hq2.out.trans (q3.mono Hq2.out.size))
    clear q3 HN LK1 LX1 Hq2
    have GC1 := hid (G1.out.later QQ.out)
    have GC2 := hid (G2.out.later QQ.out)
    have GB1 := hid (G3.out.later QQ.out)
    have GB2 := hid (G4.out.later QQ.out)
    have Gsa := hid (G5.out.later QQ.out)
    have Gsb := hid (G6.out.later QQ.out)
    have K1 := hid (fun z : Ext W3 => Ext.at (key_at z.w B1 sa la (GB1.out.later z.below) (Gsa.out.later z.below) i x hx.out))
    have K2 := hid (fun z : Ext W3 => Ext.at (val_at z.w B1 sa la (GB1.out.later z.below) (Gsa.out.later z.below) i x hx.out))
    unfold wv at K1 K2
    have j1 : ∀ z : Ext W3, z.w.cell? ⟨C1, 1, none⟩ = some (.func (.func 154) #[] #[.pointer (some ⟨B1, 0, none⟩)]) := fun z => (GC1.out.later z.below).cell 1 _ rfl
    have j2 : ∀ z : Ext W3, z.w.cell? ⟨C1, 2, none⟩ = some (.func (.func 155) #[] #[.pointer (some ⟨B1, 0, none⟩)]) := fun z => (GC1.out.later z.below).cell 2 _ rfl
    gi_wp2_with fail
    refine wpIn_region_mix (C := Grows W3) free_wide [some true, some true, some true, some true, some true, some true, some true, some true, none, none, none] hmx (by kernel_rfl) (by kernel_rfl) (grows_refl W3) ?_
    simp only [headOf, tailOf]
    repeat (go_big_quiet_step (first | (with_reducible exact K1.out _) | (with_reducible exact K2.out _)))
    refine wpQuiet_nil ?_
    rintro _ ⟨z, rfl⟩
    clear j1 j2 K1 K2
    have LKz := LK.out.later z.below
    have LXz := LX.out.later z.below
    have x0 := LKz.cell 0 _ rfl
    have f0 := LKz.frozen 0
    have x1 := LKz.cell 1 _ rfl
    have f1 := LKz.frozen 1
    have x2 := LKz.cell 2 _ rfl
    have f2 := LKz.frozen 2
    have x3 := LKz.cell 3 _ rfl
    have f3 := LKz.frozen 3
    have y0 := LXz.cell 0 _ rfl
    have g0 := LXz.frozen 0
    have y1 := LXz.cell 1 _ rfl
    have g1 := LXz.frozen 1
    have y2 := LXz.cell 2 _ rfl
    have g2 := LXz.frozen 2
    have y3 := LXz.cell 3 _ rfl
    have g3 := LXz.frozen 3
    have LK2 := hid ((((((((LKz.set 0 (.int .u64 (lim x.1 0))).set 1 (.int .u64 (lim x.1 1))).set 2 (.int .u64 (lim x.1 2))).set 3 (.int .u64 (lim x.1 3))).other (p := ⟨(wr.heap.size + 1), 0, none⟩) (by simp) (.int .u64 (lim x.2 0))).other (p := ⟨(wr.heap.size + 1), 1, none⟩) (by simp) (.int .u64 (lim x.2 1))).other (p := ⟨(wr.heap.size + 1), 2, none⟩) (by simp) (.int .u64 (lim x.2 2))).other (p := ⟨(wr.heap.size + 1), 3, none⟩) (by simp) (.int .u64 (lim x.2 3)))
    have LX2 := hid ((((((((LXz.other (p := ⟨wr.heap.size, 0, none⟩) (by simp) (.int .u64 (lim x.1 0))).other (p := ⟨wr.heap.size, 1, none⟩) (by simp) (.int .u64 (lim x.1 1))).other (p := ⟨wr.heap.size, 2, none⟩) (by simp) (.int .u64 (lim x.1 2))).other (p := ⟨wr.heap.size, 3, none⟩) (by simp) (.int .u64 (lim x.1 3))).set 0 (.int .u64 (lim x.2 0))).set 1 (.int .u64 (lim x.2 1))).set 2 (.int .u64 (lim x.2 2))).set 3 (.int .u64 (lim x.2 3)))
    have Q2 := hid (((((((((QQ.out.trans (z.below.mono QQ.out.size)).setCell (p := ⟨wr.heap.size, 0, none⟩) (by simp) (.int .u64 (lim x.1 0))).setCell (p := ⟨wr.heap.size, 1, none⟩) (by simp) (.int .u64 (lim x.1 1))).setCell (p := ⟨wr.heap.size, 2, none⟩) (by simp) (.int .u64 (lim x.1 2))).setCell (p := ⟨wr.heap.size, 3, none⟩) (by simp) (.int .u64 (lim x.1 3))).setCell (p := ⟨(wr.heap.size + 1), 0, none⟩) (by simp) (.int .u64 (lim x.2 0))).setCell (p := ⟨(wr.heap.size + 1), 1, none⟩) (by simp) (.int .u64 (lim x.2 1))).setCell (p := ⟨(wr.heap.size + 1), 2, none⟩) (by simp) (.int .u64 (lim x.2 2))).setCell (p := ⟨(wr.heap.size + 1), 3, none⟩) (by simp) (.int .u64 (lim x.2 3)))
    replace LKz := hid LKz
    replace LXz := hid LXz
    go_wp2
    rw [calmPost_normal]
    clear x0 f0 x1 f1 x2 f2 x3 f3 y0 g0 y1 g1 y2 g2 y3 g3 LKz LXz LK LX
    obtain ⟨Ya, hY⟩ : ∃ Y, ((((((((z.w.setCell ⟨wr.heap.size, 0, none⟩ (.int .u64 (lim x.1 0))).setCell ⟨wr.heap.size, 1, none⟩ (.int .u64 (lim x.1 1))).setCell ⟨wr.heap.size, 2, none⟩ (.int .u64 (lim x.1 2))).setCell ⟨wr.heap.size, 3, none⟩ (.int .u64 (lim x.1 3))).setCell ⟨(wr.heap.size + 1), 0, none⟩ (.int .u64 (lim x.2 0))).setCell ⟨(wr.heap.size + 1), 1, none⟩ (.int .u64 (lim x.2 1))).setCell ⟨(wr.heap.size + 1), 2, none⟩ (.int .u64 (lim x.2 2))).setCell ⟨(wr.heap.size + 1), 3, none⟩ (.int .u64 (lim x.2 3))) = Y := ⟨_, rfl⟩
    rw [hY] at LK2 LX2 Q2 ⊢
    clear hY z
    have LK := hid (show Has Ya wr.heap.size 28 #[.int .u64 (lim x.1 0), .int .u64 (lim x.1 1), .int .u64 (lim x.1 2), .int .u64 (lim x.1 3)] from LK2.out)
    have LX := hid (show Has Ya (wr.heap.size + 1) 191 #[.int .u64 (lim x.2 0), .int .u64 (lim x.2 1), .int .u64 (lim x.2 2), .int .u64 (lim x.2 3), .int .u64 (0), .int .u64 (0), .int .u64 (0), .int .u64 (0), .bool false] from LX2.out)
    replace QQ := Q2
    clear LK2 LX2 Q2
    have hJf := HJA.out _ _ _ HJ.out QQ.out
    obtain ⟨fn, tmps, assign, body, hyy, hR⟩ := HY.out k #[.agg #[.int .u64 (lim x.1 0), .int .u64 (lim x.1 1), .int .u64 (lim x.1 2), .int .u64 (lim x.1 3)], .agg #[.int .u64 (lim x.2 0), .int .u64 (lim x.2 1), .int .u64 (lim x.2 2), .int .u64 (lim x.2 3), .int .u64 (0), .int .u64 (0), .int .u64 (0), .int .u64 (0), .bool false]] Ya hkN.out hJf ⟨⟨x.1, x.2, 0, false⟩, hp.out, by simp [prV, wv, lim_zero]⟩
    have HKF := hid (HKT.out.trans (Kt.grow QQ.out hw0.out))
    have x0 := LK.out.cell 0 _ rfl
    have x1 := LK.out.cell 1 _ rfl
    have x2 := LK.out.cell 2 _ rfl
    have x3 := LK.out.cell 3 _ rfl
    have y0 := LX.out.cell 0 _ rfl
    have y1 := LX.out.cell 1 _ rfl
    have y2 := LX.out.cell 2 _ rfl
    have y3 := LX.out.cell 3 _ rfl
    have y4 := LX.out.cell 4 _ rfl
    have y5 := LX.out.cell 5 _ rfl
    have y6 := LX.out.cell 6 _ rfl
    have y7 := LX.out.cell 7 _ rfl
    have y8 := LX.out.cell 8 _ rfl
    clear hJf GC1 GC2 GB1 GB2 Gsa Gsb G1 G2 G3 G4 G5 G6
    gi_wp2_with fail
    clear x0 x1 x2 x3 y0 y1 y2 y3 y4 y5 y6 y7 y8 LK LX
    refine ⟨fun h => absurd h (by simp [Fence.wide]), (roundIn_any hR).mono ?_⟩
    rintro e W5 (⟨rfl, hJ5, hkt5⟩ | ⟨rfl, hJx5⟩)
    ·have HE := hid (And.intro hJ5 (HKF.out.trans hkt5))
     clear hJ5 hkt5 hR hyy
     gi_wp2_with fail
     go_roundw
     case rel => exact ⟨k + 1, i + 1, j, by simp, by simp, by omega, by omega, hbn.out, hkN.out, HE.out.1, HE.out.2⟩
     case measure => simp [intOf]; omega
    ·have HE := hid hJx5
     clear hJx5 hR hyy
     gi_wp2_with fail
     refine bodyPost_ret (v := .tuple #[]) (by simp [results, Tryz.results164, go_sem]) rfl ⟨⟨_, rfl⟩, .inr ⟨k, hkN.out, HE.out⟩⟩
   ·by_cases hil0 : (i : Int) < (la.length : Int)
    ·have hjl : j < lb.length := (List.getElem?_eq_some_iff.1 hy).1
     have hjI : (j : Int) < (lb.length : Int) := by omega
     have hib : (i : Int) ≤ 1099511627776 := by have := HL.out.1; omega
     have hjb : (j : Int) ≤ 1099511627776 := by have := HL.out.2; omega
     have hkN := hid (show k < (bothL la lb).length from (List.getElem?_eq_some_iff.1 hp).1)
     have QW := HW0.out.trans hkt.1
     have G1 := hid (hkt.has HH.out.1 (by simp))
     have G2 := hid (hkt.has HH.out.2.1 (by simp))
     have G3 := hid (hkt.has HH.out.2.2.1 (by simp))
     have G4 := hid (hkt.has HH.out.2.2.2 (by simp))
     have G5 := hid (HA.out.later QW)
     have G6 := hid (HB.out.later QW)
     have hw0 := hid (show w0.heap.size ≤ wr.heap.size from QW.size)
     have LK0 := (Has.new wr 28 #[.int .u64 0, .int .u64 0, .int .u64 0, .int .u64 0]).alloc (.cells #[.int .u64 0, .int .u64 0, .int .u64 0, .int .u64 0, .int .u64 0, .int .u64 0, .int .u64 0, .int .u64 0, .bool false] 191)
     have LX0 := Has.new (wr.alloc (.cells #[.int .u64 0, .int .u64 0, .int .u64 0, .int .u64 0] 28)) 191 #[.int .u64 0, .int .u64 0, .int .u64 0, .int .u64 0, .int .u64 0, .int .u64 0, .int .u64 0, .int .u64 0, .bool false]
     simp only [World.size_alloc] at LX0
     have q2 := (newA wr (.cells #[.int .u64 0, .int .u64 0, .int .u64 0, .int .u64 0] 28)).alloc (by simp) (.cells #[.int .u64 0, .int .u64 0, .int .u64 0, .int .u64 0, .int .u64 0, .int .u64 0, .int .u64 0, .int .u64 0, .bool false] 191)
     obtain ⟨W2, hW2⟩ : ∃ W2, (wr.alloc (.cells #[.int .u64 0, .int .u64 0, .int .u64 0, .int .u64 0] 28)).alloc (.cells #[.int .u64 0, .int .u64 0, .int .u64 0, .int .u64 0, .int .u64 0, .int .u64 0, .int .u64 0, .int .u64 0, .bool false] 191) = W2 := ⟨_, rfl⟩
     rw [hW2] at LK0 LX0 q2
     have HN0 := next_any W2 B1 B2 sa sb la lb (G3.out.later q2) (G4.out.later q2) (G5.out.later q2) (G6.out.later q2) i j hi hj
     rw [hnx] at HN0
     have HN := hid HN0
     have m0 := (G1.out.later q2).cell 0 _ rfl
     have m1 := (G1.out.later q2).cell 1 _ rfl
     have m2 := (G1.out.later q2).cell 2 _ rfl
     have m3 := (G1.out.later q2).cell 3 _ rfl
     have m4 := (G2.out.later q2).cell 0 _ rfl
     have m5 := (G2.out.later q2).cell 1 _ rfl
     have m6 := (G2.out.later q2).cell 2 _ rfl
     have m7 := (G2.out.later q2).cell 3 _ rfl
     have LK1 := hid LK0
     have LX1 := hid LX0
     have Hq2 := hid q2
     replace hp := hid hp
     replace hbn := hid hbn
     replace hy := hid hy
     clear LK0 LX0 q2 HN0 hnx hb hJ hkt QW hk
     gi_wp2_with fail
     clear m0 m1 m2 m3 m4 m5 m6 m7 hW2 c10 c20
     refine ⟨fun h => absurd h (by simp [Fence.wide]), (callsIn_free free_wide HN.out).mono ?_⟩
     rintro _ W3 ⟨rfl, q3⟩
     have LK := hid (LK1.out.later q3)
     have LX := hid (LX1.out.later q3)
     have QQ := hid (Hq2.out.trans (q3.mono Hq2.out.size))
     clear q3 HN LK1 LX1 Hq2
     have GC1 := hid (G1.out.later QQ.out)
     have GC2 := hid (G2.out.later QQ.out)
     have GB1 := hid (G3.out.later QQ.out)
     have GB2 := hid (G4.out.later QQ.out)
     have Gsa := hid (G5.out.later QQ.out)
     have Gsb := hid (G6.out.later QQ.out)
     have K1 := hid (fun z : Ext W3 => Ext.at (key_at z.w B2 sb lb (GB2.out.later z.below) (Gsb.out.later z.below) j y hy.out))
     have K2 := hid (fun z : Ext W3 => Ext.at (val_at z.w B2 sb lb (GB2.out.later z.below) (Gsb.out.later z.below) j y hy.out))
     unfold wv at K1 K2
     have j1 : ∀ z : Ext W3, z.w.cell? ⟨C2, 1, none⟩ = some (.func (.func 154) #[] #[.pointer (some ⟨B2, 0, none⟩)]) := fun z => (GC2.out.later z.below).cell 1 _ rfl
     have j2 : ∀ z : Ext W3, z.w.cell? ⟨C2, 2, none⟩ = some (.func (.func 155) #[] #[.pointer (some ⟨B2, 0, none⟩)]) := fun z => (GC2.out.later z.below).cell 2 _ rfl
     gi_wp2_with fail
     refine wpIn_region_mix (C := Grows W3) free_wide [some true, some true, some true, some true, some true, some true, some true, some true, none, none, none, none, none] hmx (by kernel_rfl) (by kernel_rfl) (grows_refl W3) ?_
     simp only [headOf, tailOf]
     repeat (go_big_quiet_step (first | (with_reducible exact K1.out _) | (with_reducible exact K2.out _)))
     refine wpQuiet_nil ?_
     rintro _ ⟨z, rfl⟩
     clear j1 j2 K1 K2
     have LKz := LK.out.later z.below
     have LXz := LX.out.later z.below
     have x0 := LKz.cell 0 _ rfl
     have f0 := LKz.frozen 0
     have x1 := LKz.cell 1 _ rfl
     have f1 := LKz.frozen 1
     have x2 := LKz.cell 2 _ rfl
     have f2 := LKz.frozen 2
     have x3 := LKz.cell 3 _ rfl
     have f3 := LKz.frozen 3
     have y4 := LXz.cell 4 _ rfl
     have g4 := LXz.frozen 4
     have y5 := LXz.cell 5 _ rfl
     have g5 := LXz.frozen 5
     have y6 := LXz.cell 6 _ rfl
     have g6 := LXz.frozen 6
     have y7 := LXz.cell 7 _ rfl
     have g7 := LXz.frozen 7
     have y8 := LXz.cell 8 _ rfl
     have g8 := LXz.frozen 8
     have LK2 := hid (((((((((LKz.set 0 (.int .u64 (lim y.1 0))).set 1 (.int .u64 (lim y.1 1))).set 2 (.int .u64 (lim y.1 2))).set 3 (.int .u64 (lim y.1 3))).other (p := ⟨(wr.heap.size + 1), 4, none⟩) (by simp) (.int .u64 (lim y.2 0))).other (p := ⟨(wr.heap.size + 1), 5, none⟩) (by simp) (.int .u64 (lim y.2 1))).other (p := ⟨(wr.heap.size + 1), 6, none⟩) (by simp) (.int .u64 (lim y.2 2))).other (p := ⟨(wr.heap.size + 1), 7, none⟩) (by simp) (.int .u64 (lim y.2 3))).other (p := ⟨(wr.heap.size + 1), 8, none⟩) (by simp) (.bool true))
     have LX2 := hid (((((((((LXz.other (p := ⟨wr.heap.size, 0, none⟩) (by simp) (.int .u64 (lim y.1 0))).other (p := ⟨wr.heap.size, 1, none⟩) (by simp) (.int .u64 (lim y.1 1))).other (p := ⟨wr.heap.size, 2, none⟩) (by simp) (.int .u64 (lim y.1 2))).other (p := ⟨wr.heap.size, 3, none⟩) (by simp) (.int .u64 (lim y.1 3))).set 4 (.int .u64 (lim y.2 0))).set 5 (.int .u64 (lim y.2 1))).set 6 (.int .u64 (lim y.2 2))).set 7 (.int .u64 (lim y.2 3))).set 8 (.bool true))
     have Q2 := hid ((((((((((QQ.out.trans (z.below.mono QQ.out.size)).setCell (p := ⟨wr.heap.size, 0, none⟩) (by simp) (.int .u64 (lim y.1 0))).setCell (p := ⟨wr.heap.size, 1, none⟩) (by simp) (.int .u64 (lim y.1 1))).setCell (p := ⟨wr.heap.size, 2, none⟩) (by simp) (.int .u64 (lim y.1 2))).setCell (p := ⟨wr.heap.size, 3, none⟩) (by simp) (.int .u64 (lim y.1 3))).setCell (p := ⟨(wr.heap.size + 1), 4, none⟩) (by simp) (.int .u64 (lim y.2 0))).setCell (p := ⟨(wr.heap.size + 1), 5, none⟩) (by simp) (.int .u64 (lim y.2 1))).setCell (p := ⟨(wr.heap.size + 1), 6, none⟩) (by simp) (.int .u64 (lim y.2 2))).setCell (p := ⟨(wr.heap.size + 1), 7, none⟩) (by simp) (.int .u64 (lim y.2 3))).setCell (p := ⟨(wr.heap.size + 1), 8, none⟩) (by simp) (.bool true))
     replace LKz := hid LKz
     replace LXz := hid LXz
     go_wp2
     rw [calmPost_normal]
     clear x0 f0 x1 f1 x2 f2 x3 f3 y4 g4 y5 g5 y6 g6 y7 g7 y8 g8 LKz LXz LK LX
     obtain ⟨Yb, hY⟩ : ∃ Y, (((((((((z.w.setCell ⟨wr.heap.size, 0, none⟩ (.int .u64 (lim y.1 0))).setCell ⟨wr.heap.size, 1, none⟩ (.int .u64 (lim y.1 1))).setCell ⟨wr.heap.size, 2, none⟩ (.int .u64 (lim y.1 2))).setCell ⟨wr.heap.size, 3, none⟩ (.int .u64 (lim y.1 3))).setCell ⟨(wr.heap.size + 1), 4, none⟩ (.int .u64 (lim y.2 0))).setCell ⟨(wr.heap.size + 1), 5, none⟩ (.int .u64 (lim y.2 1))).setCell ⟨(wr.heap.size + 1), 6, none⟩ (.int .u64 (lim y.2 2))).setCell ⟨(wr.heap.size + 1), 7, none⟩ (.int .u64 (lim y.2 3))).setCell ⟨(wr.heap.size + 1), 8, none⟩ (.bool true)) = Y := ⟨_, rfl⟩
     rw [hY] at LK2 LX2 Q2 ⊢
     clear hY z
     have LK := hid (show Has Yb wr.heap.size 28 #[.int .u64 (lim y.1 0), .int .u64 (lim y.1 1), .int .u64 (lim y.1 2), .int .u64 (lim y.1 3)] from LK2.out)
     have LX := hid (show Has Yb (wr.heap.size + 1) 191 #[.int .u64 (0), .int .u64 (0), .int .u64 (0), .int .u64 (0), .int .u64 (lim y.2 0), .int .u64 (lim y.2 1), .int .u64 (lim y.2 2), .int .u64 (lim y.2 3), .bool true] from LX2.out)
     replace QQ := Q2
     clear LK2 LX2 Q2
     have hJf := HJA.out _ _ _ HJ.out QQ.out
     obtain ⟨fn, tmps, assign, body, hyy, hR⟩ := HY.out k #[.agg #[.int .u64 (lim y.1 0), .int .u64 (lim y.1 1), .int .u64 (lim y.1 2), .int .u64 (lim y.1 3)], .agg #[.int .u64 (0), .int .u64 (0), .int .u64 (0), .int .u64 (0), .int .u64 (lim y.2 0), .int .u64 (lim y.2 1), .int .u64 (lim y.2 2), .int .u64 (lim y.2 3), .bool true]] Yb hkN.out hJf ⟨⟨y.1, 0, y.2, true⟩, hp.out, by simp [prV, wv, lim_zero]⟩
     have HKF := hid (HKT.out.trans (Kt.grow QQ.out hw0.out))
     have x0 := LK.out.cell 0 _ rfl
     have x1 := LK.out.cell 1 _ rfl
     have x2 := LK.out.cell 2 _ rfl
     have x3 := LK.out.cell 3 _ rfl
     have y0 := LX.out.cell 0 _ rfl
     have y1 := LX.out.cell 1 _ rfl
     have y2 := LX.out.cell 2 _ rfl
     have y3 := LX.out.cell 3 _ rfl
     have y4 := LX.out.cell 4 _ rfl
     have y5 := LX.out.cell 5 _ rfl
     have y6 := LX.out.cell 6 _ rfl
     have y7 := LX.out.cell 7 _ rfl
     have y8 := LX.out.cell 8 _ rfl
     clear hJf GC1 GC2 GB1 GB2 Gsa Gsb G1 G2 G3 G4 G5 G6
     gi_wp2_with fail
     clear x0 x1 x2 x3 y0 y1 y2 y3 y4 y5 y6 y7 y8 LK LX
     refine ⟨fun h => absurd h (by simp [Fence.wide]), (roundIn_any hR).mono ?_⟩
     rintro e W5 (⟨rfl, hJ5, hkt5⟩ | ⟨rfl, hJx5⟩)
     ·have HE := hid (And.intro hJ5 (HKF.out.trans hkt5))
      clear hJ5 hkt5 hR hyy
      gi_wp2_with fail
      go_roundw
      case rel => exact ⟨k + 1, i, j + 1, by simp, by simp, by omega, by omega, hbn.out, hkN.out, HE.out.1, HE.out.2⟩
      case measure => simp [intOf]; omega
     ·have HE := hid hJx5
      clear hJx5 hR hyy
      gi_wp2_with fail
      refine bodyPost_ret (v := .tuple #[]) (by simp [results, Tryz.results164, go_sem]) rfl ⟨⟨_, rfl⟩, .inr ⟨k, hkN.out, HE.out⟩⟩
    ·have hjl : j < lb.length := (List.getElem?_eq_some_iff.1 hy).1
     have hjI : (j : Int) < (lb.length : Int) := by omega
     have hib : (i : Int) ≤ 1099511627776 := by have := HL.out.1; omega
     have hjb : (j : Int) ≤ 1099511627776 := by have := HL.out.2; omega
     have hkN := hid (show k < (bothL la lb).length from (List.getElem?_eq_some_iff.1 hp).1)
     have QW := HW0.out.trans hkt.1
     have G1 := hid (hkt.has HH.out.1 (by simp))
     have G2 := hid (hkt.has HH.out.2.1 (by simp))
     have G3 := hid (hkt.has HH.out.2.2.1 (by simp))
     have G4 := hid (hkt.has HH.out.2.2.2 (by simp))
     have G5 := hid (HA.out.later QW)
     have G6 := hid (HB.out.later QW)
     have hw0 := hid (show w0.heap.size ≤ wr.heap.size from QW.size)
     have LK0 := (Has.new wr 28 #[.int .u64 0, .int .u64 0, .int .u64 0, .int .u64 0]).alloc (.cells #[.int .u64 0, .int .u64 0, .int .u64 0, .int .u64 0, .int .u64 0, .int .u64 0, .int .u64 0, .int .u64 0, .bool false] 191)
     have LX0 := Has.new (wr.alloc (.cells #[.int .u64 0, .int .u64 0, .int .u64 0, .int .u64 0] 28)) 191 #[.int .u64 0, .int .u64 0, .int .u64 0, .int .u64 0, .int .u64 0, .int .u64 0, .int .u64 0, .int .u64 0, .bool false]
     simp only [World.size_alloc] at LX0
     have q2 := (newA wr (.cells #[.int .u64 0, .int .u64 0, .int .u64 0, .int .u64 0] 28)).alloc (by simp) (.cells #[.int .u64 0, .int .u64 0, .int .u64 0, .int .u64 0, .int .u64 0, .int .u64 0, .int .u64 0, .int .u64 0, .bool false] 191)
     obtain ⟨W2, hW2⟩ : ∃ W2, (wr.alloc (.cells #[.int .u64 0, .int .u64 0, .int .u64 0, .int .u64 0] 28)).alloc (.cells #[.int .u64 0, .int .u64 0, .int .u64 0, .int .u64 0, .int .u64 0, .int .u64 0, .int .u64 0, .int .u64 0, .bool false] 191) = W2 := ⟨_, rfl⟩
     rw [hW2] at LK0 LX0 q2
     have HN0 := next_any W2 B1 B2 sa sb la lb (G3.out.later q2) (G4.out.later q2) (G5.out.later q2) (G6.out.later q2) i j hi hj
     rw [hnx] at HN0
     have HN := hid HN0
     have m0 := (G1.out.later q2).cell 0 _ rfl
     have m1 := (G1.out.later q2).cell 1 _ rfl
     have m2 := (G1.out.later q2).cell 2 _ rfl
     have m3 := (G1.out.later q2).cell 3 _ rfl
     have m4 := (G2.out.later q2).cell 0 _ rfl
     have m5 := (G2.out.later q2).cell 1 _ rfl
     have m6 := (G2.out.later q2).cell 2 _ rfl
     have m7 := (G2.out.later q2).cell 3 _ rfl
     have LK1 := hid LK0
     have LX1 := hid LX0
     have Hq2 := hid q2
     replace hp := hid hp
     replace hbn := hid hbn
     replace hy := hid hy
     clear LK0 LX0 q2 HN0 hnx hb hJ hkt QW hk
     gi_wp2_with fail
     clear m0 m1 m2 m3 m4 m5 m6 m7 hW2 c10 c20
     refine ⟨fun h => absurd h (by simp [Fence.wide]), (callsIn_free free_wide HN.out).mono ?_⟩
     rintro _ W3 ⟨rfl, q3⟩
     have LK := hid (LK1.out.later q3)
     have LX := hid (LX1.out.later q3)
     have QQ := hid (Hq2.out.trans (q3.mono Hq2.out.size))
     clear q3 HN LK1 LX1 Hq2
     have GC1 := hid (G1.out.later QQ.out)
     have GC2 := hid (G2.out.later QQ.out)
     have GB1 := hid (G3.out.later QQ.out)
     have GB2 := hid (G4.out.later QQ.out)
     have Gsa := hid (G5.out.later QQ.out)
     have Gsb := hid (G6.out.later QQ.out)
     have K1 := hid (fun z : Ext W3 => Ext.at (key_at z.w B2 sb lb (GB2.out.later z.below) (Gsb.out.later z.below) j y hy.out))
     have K2 := hid (fun z : Ext W3 => Ext.at (val_at z.w B2 sb lb (GB2.out.later z.below) (Gsb.out.later z.below) j y hy.out))
     unfold wv at K1 K2
     have j1 : ∀ z : Ext W3, z.w.cell? ⟨C2, 1, none⟩ = some (.func (.func 154) #[] #[.pointer (some ⟨B2, 0, none⟩)]) := fun z => (GC2.out.later z.below).cell 1 _ rfl
     have j2 : ∀ z : Ext W3, z.w.cell? ⟨C2, 2, none⟩ = some (.func (.func 155) #[] #[.pointer (some ⟨B2, 0, none⟩)]) := fun z => (GC2.out.later z.below).cell 2 _ rfl
     gi_wp2_with fail
     refine wpIn_region_mix (C := Grows W3) free_wide [some true, some true, some true, some true, some true, some true, some true, some true, none, none, none, none, none] hmx (by kernel_rfl) (by kernel_rfl) (grows_refl W3) ?_
     simp only [headOf, tailOf]
     repeat (go_big_quiet_step (first | (with_reducible exact K1.out _) | (with_reducible exact K2.out _)))
     refine wpQuiet_nil ?_
     rintro _ ⟨z, rfl⟩
     clear j1 j2 K1 K2
     have LKz := LK.out.later z.below
     have LXz := LX.out.later z.below
     have x0 := LKz.cell 0 _ rfl
     have f0 := LKz.frozen 0
     have x1 := LKz.cell 1 _ rfl
     have f1 := LKz.frozen 1
     have x2 := LKz.cell 2 _ rfl
     have f2 := LKz.frozen 2
     have x3 := LKz.cell 3 _ rfl
     have f3 := LKz.frozen 3
     have y4 := LXz.cell 4 _ rfl
     have g4 := LXz.frozen 4
     have y5 := LXz.cell 5 _ rfl
     have g5 := LXz.frozen 5
     have y6 := LXz.cell 6 _ rfl
     have g6 := LXz.frozen 6
     have y7 := LXz.cell 7 _ rfl
     have g7 := LXz.frozen 7
     have y8 := LXz.cell 8 _ rfl
     have g8 := LXz.frozen 8
     have LK2 := hid (((((((((LKz.set 0 (.int .u64 (lim y.1 0))).set 1 (.int .u64 (lim y.1 1))).set 2 (.int .u64 (lim y.1 2))).set 3 (.int .u64 (lim y.1 3))).other (p := ⟨(wr.heap.size + 1), 4, none⟩) (by simp) (.int .u64 (lim y.2 0))).other (p := ⟨(wr.heap.size + 1), 5, none⟩) (by simp) (.int .u64 (lim y.2 1))).other (p := ⟨(wr.heap.size + 1), 6, none⟩) (by simp) (.int .u64 (lim y.2 2))).other (p := ⟨(wr.heap.size + 1), 7, none⟩) (by simp) (.int .u64 (lim y.2 3))).other (p := ⟨(wr.heap.size + 1), 8, none⟩) (by simp) (.bool true))
     have LX2 := hid (((((((((LXz.other (p := ⟨wr.heap.size, 0, none⟩) (by simp) (.int .u64 (lim y.1 0))).other (p := ⟨wr.heap.size, 1, none⟩) (by simp) (.int .u64 (lim y.1 1))).other (p := ⟨wr.heap.size, 2, none⟩) (by simp) (.int .u64 (lim y.1 2))).other (p := ⟨wr.heap.size, 3, none⟩) (by simp) (.int .u64 (lim y.1 3))).set 4 (.int .u64 (lim y.2 0))).set 5 (.int .u64 (lim y.2 1))).set 6 (.int .u64 (lim y.2 2))).set 7 (.int .u64 (lim y.2 3))).set 8 (.bool true))
     have Q2 := hid ((((((((((QQ.out.trans (z.below.mono QQ.out.size)).setCell (p := ⟨wr.heap.size, 0, none⟩) (by simp) (.int .u64 (lim y.1 0))).setCell (p := ⟨wr.heap.size, 1, none⟩) (by simp) (.int .u64 (lim y.1 1))).setCell (p := ⟨wr.heap.size, 2, none⟩) (by simp) (.int .u64 (lim y.1 2))).setCell (p := ⟨wr.heap.size, 3, none⟩) (by simp) (.int .u64 (lim y.1 3))).setCell (p := ⟨(wr.heap.size + 1), 4, none⟩) (by simp) (.int .u64 (lim y.2 0))).setCell (p := ⟨(wr.heap.size + 1), 5, none⟩) (by simp) (.int .u64 (lim y.2 1))).setCell (p := ⟨(wr.heap.size + 1), 6, none⟩) (by simp) (.int .u64 (lim y.2 2))).setCell (p := ⟨(wr.heap.size + 1), 7, none⟩) (by simp) (.int .u64 (lim y.2 3))).setCell (p := ⟨(wr.heap.size + 1), 8, none⟩) (by simp) (.bool true))
     replace LKz := hid LKz
     replace LXz := hid LXz
     go_wp2
     rw [calmPost_normal]
     clear x0 f0 x1 f1 x2 f2 x3 f3 y4 g4 y5 g5 y6 g6 y7 g7 y8 g8 LKz LXz LK LX
     obtain ⟨Yb, hY⟩ : ∃ Y, (((((((((z.w.setCell ⟨wr.heap.size, 0, none⟩ (.int .u64 (lim y.1 0))).setCell ⟨wr.heap.size, 1, none⟩ (.int .u64 (lim y.1 1))).setCell ⟨wr.heap.size, 2, none⟩ (.int .u64 (lim y.1 2))).setCell ⟨wr.heap.size, 3, none⟩ (.int .u64 (lim y.1 3))).setCell ⟨(wr.heap.size + 1), 4, none⟩ (.int .u64 (lim y.2 0))).setCell ⟨(wr.heap.size + 1), 5, none⟩ (.int .u64 (lim y.2 1))).setCell ⟨(wr.heap.size + 1), 6, none⟩ (.int .u64 (lim y.2 2))).setCell ⟨(wr.heap.size + 1), 7, none⟩ (.int .u64 (lim y.2 3))).setCell ⟨(wr.heap.size + 1), 8, none⟩ (.bool true)) = Y := ⟨_, rfl⟩
     rw [hY] at LK2 LX2 Q2 ⊢
     clear hY z
     have LK := hid (show Has Yb wr.heap.size 28 #[.int .u64 (lim y.1 0), .int .u64 (lim y.1 1), .int .u64 (lim y.1 2), .int .u64 (lim y.1 3)] from LK2.out)
     have LX := hid (show Has Yb (wr.heap.size + 1) 191 #[.int .u64 (0), .int .u64 (0), .int .u64 (0), .int .u64 (0), .int .u64 (lim y.2 0), .int .u64 (lim y.2 1), .int .u64 (lim y.2 2), .int .u64 (lim y.2 3), .bool true] from LX2.out)
     replace QQ := Q2
     clear LK2 LX2 Q2
     have hJf := HJA.out _ _ _ HJ.out QQ.out
     obtain ⟨fn, tmps, assign, body, hyy, hR⟩ := HY.out k #[.agg #[.int .u64 (lim y.1 0), .int .u64 (lim y.1 1), .int .u64 (lim y.1 2), .int .u64 (lim y.1 3)], .agg #[.int .u64 (0), .int .u64 (0), .int .u64 (0), .int .u64 (0), .int .u64 (lim y.2 0), .int .u64 (lim y.2 1), .int .u64 (lim y.2 2), .int .u64 (lim y.2 3), .bool true]] Yb hkN.out hJf ⟨⟨y.1, 0, y.2, true⟩, hp.out, by simp [prV, wv, lim_zero]⟩
     have HKF := hid (HKT.out.trans (Kt.grow QQ.out hw0.out))
     have x0 := LK.out.cell 0 _ rfl
     have x1 := LK.out.cell 1 _ rfl
     have x2 := LK.out.cell 2 _ rfl
     have x3 := LK.out.cell 3 _ rfl
     have y0 := LX.out.cell 0 _ rfl
     have y1 := LX.out.cell 1 _ rfl
     have y2 := LX.out.cell 2 _ rfl
     have y3 := LX.out.cell 3 _ rfl
     have y4 := LX.out.cell 4 _ rfl
     have y5 := LX.out.cell 5 _ rfl
     have y6 := LX.out.cell 6 _ rfl
     have y7 := LX.out.cell 7 _ rfl
     have y8 := LX.out.cell 8 _ rfl
     clear hJf GC1 GC2 GB1 GB2 Gsa Gsb G1 G2 G3 G4 G5 G6
     gi_wp2_with fail
     clear x0 x1 x2 x3 y0 y1 y2 y3 y4 y5 y6 y7 y8 LK LX
     refine ⟨fun h => absurd h (by simp [Fence.wide]), (roundIn_any hR).mono ?_⟩
     rintro e W5 (⟨rfl, hJ5, hkt5⟩ | ⟨rfl, hJx5⟩)
     ·have HE := hid (And.intro hJ5 (HKF.out.trans hkt5))
      clear hJ5 hkt5 hR hyy
      gi_wp2_with fail
      go_roundw
      case rel => exact ⟨k + 1, i, j + 1, by simp, by simp, by omega, by omega, hbn.out, hkN.out, HE.out.1, HE.out.2⟩
      case measure => simp [intOf]; omega
     ·have HE := hid hJx5
      clear hJx5 hR hyy
      gi_wp2_with fail
      refine bodyPost_ret (v := .tuple #[]) (by simp [results, Tryz.results164, go_sem]) rfl ⟨⟨_, rfl⟩, .inr ⟨k, hkN.out, HE.out⟩⟩
   ·replace hxy := hid hxy
    have hil : i < la.length := (List.getElem?_eq_some_iff.1 hx).1
    have hiI : (i : Int) < (la.length : Int) := by omega
    have hjl : j < lb.length := (List.getElem?_eq_some_iff.1 hy).1
    have hjI : (j : Int) < (lb.length : Int) := by omega
    have hib : (i : Int) ≤ 1099511627776 := by have := HL.out.1; omega
    have hjb : (j : Int) ≤ 1099511627776 := by have := HL.out.2; omega
    have hkN := hid (show k < (bothL la lb).length from (List.getElem?_eq_some_iff.1 hp).1)
    have QW := HW0.out.trans hkt.1
    have G1 := hid (hkt.has HH.out.1 (by simp))
    have G2 := hid (hkt.has HH.out.2.1 (by simp))
    have G3 := hid (hkt.has HH.out.2.2.1 (by simp))
    have G4 := hid (hkt.has HH.out.2.2.2 (by simp))
    have G5 := hid (HA.out.later QW)
    have G6 := hid (HB.out.later QW)
    have hw0 := hid (show w0.heap.size ≤ wr.heap.size from QW.size)
    have LK0 := (Has.new wr 28 #[.int .u64 0, .int .u64 0, .int .u64 0, .int .u64 0]).alloc (.cells #[.int .u64 0, .int .u64 0, .int .u64 0, .int .u64 0, .int .u64 0, .int .u64 0, .int .u64 0, .int .u64 0, .bool false] 191)
    have LX0 := Has.new (wr.alloc (.cells #[.int .u64 0, .int .u64 0, .int .u64 0, .int .u64 0] 28)) 191 #[.int .u64 0, .int .u64 0, .int .u64 0, .int .u64 0, .int .u64 0, .int .u64 0, .int .u64 0, .int .u64 0, .bool false]
    simp only [World.size_alloc] at LX0
    have q2 := (newA wr (.cells #[.int .u64 0, .int .u64 0, .int .u64 0, .int .u64 0] 28)).alloc (by simp) (.cells #[.int .u64 0, .int .u64 0, .int .u64 0, .int .u64 0, .int .u64 0, .int .u64 0, .int .u64 0, .int .u64 0, .bool false] 191)
    obtain ⟨W2, hW2⟩ : ∃ W2, (wr.alloc (.cells #[.int .u64 0, .int .u64 0, .int .u64 0, .int .u64 0] 28)).alloc (.cells #[.int .u64 0, .int .u64 0, .int .u64 0, .int .u64 0, .int .u64 0, .int .u64 0, .int .u64 0, .int .u64 0, .bool false] 191) = W2 := ⟨_, rfl⟩
    rw [hW2] at LK0 LX0 q2
    have HN0 := next_any W2 B1 B2 sa sb la lb (G3.out.later q2) (G4.out.later q2) (G5.out.later q2) (G6.out.later q2) i j hi hj
    rw [hnx] at HN0
    have HN := hid HN0
    have m0 := (G1.out.later q2).cell 0 _ rfl
    have m1 := (G1.out.later q2).cell 1 _ rfl
    have m2 := (G1.out.later q2).cell 2 _ rfl
    have m3 := (G1.out.later q2).cell 3 _ rfl
    have m4 := (G2.out.later q2).cell 0 _ rfl
    have m5 := (G2.out.later q2).cell 1 _ rfl
    have m6 := (G2.out.later q2).cell 2 _ rfl
    have m7 := (G2.out.later q2).cell 3 _ rfl
    have LK1 := hid LK0
    have LX1 := hid LX0
    have Hq2 := hid q2
    replace hp := hid hp
    replace hbn := hid hbn
    replace hx := hid hx
    replace hy := hid hy
    clear LK0 LX0 q2 HN0 hnx hb hJ hkt QW hk
    gi_wp2_with fail
    clear m0 m1 m2 m3 m4 m5 m6 m7 hW2 c10 c20
    refine ⟨fun h => absurd h (by simp [Fence.wide]), (callsIn_free free_wide HN.out).mono ?_⟩
    rintro _ W3 ⟨rfl, q3⟩
    have LK := hid (LK1.out.later q3)
    have LX := hid (LX1.out.later q3)
    have QQ := hid (Hq2.out.trans (q3.mono Hq2.out.size))
    clear q3 HN LK1 LX1 Hq2
    have GC1 := hid (G1.out.later QQ.out)
    have GC2 := hid (G2.out.later QQ.out)
    have GB1 := hid (G3.out.later QQ.out)
    have GB2 := hid (G4.out.later QQ.out)
    have Gsa := hid (G5.out.later QQ.out)
    have Gsb := hid (G6.out.later QQ.out)
    have K1 := hid (fun z : Ext W3 => Ext.at (key_at z.w B1 sa la (GB1.out.later z.below) (Gsa.out.later z.below) i x hx.out))
    have K2 := hid (fun z : Ext W3 => Ext.at (val_at z.w B1 sa la (GB1.out.later z.below) (Gsa.out.later z.below) i x hx.out))
    unfold wv at K1 K2
    have j1 : ∀ z : Ext W3, z.w.cell? ⟨C1, 1, none⟩ = some (.func (.func 154) #[] #[.pointer (some ⟨B1, 0, none⟩)]) := fun z => (GC1.out.later z.below).cell 1 _ rfl
    have j2 : ∀ z : Ext W3, z.w.cell? ⟨C1, 2, none⟩ = some (.func (.func 155) #[] #[.pointer (some ⟨B1, 0, none⟩)]) := fun z => (GC1.out.later z.below).cell 2 _ rfl
    gi_wp2_with fail
    refine wpIn_region_mix (C := Grows W3) free_wide [some true, some true, some true, some true, some true, some true, some true, some true, none, none, none] hmx (by kernel_rfl) (by kernel_rfl) (grows_refl W3) ?_
    simp only [headOf, tailOf]
    repeat (go_big_quiet_step (first | (with_reducible exact K1.out _) | (with_reducible exact K2.out _)))
    refine wpQuiet_nil ?_
    rintro _ ⟨z, rfl⟩
    clear j1 j2 K1 K2
    have LKz := LK.out.later z.below
    have LXz := LX.out.later z.below
    have x0 := LKz.cell 0 _ rfl
    have f0 := LKz.frozen 0
    have x1 := LKz.cell 1 _ rfl
    have f1 := LKz.frozen 1
    have x2 := LKz.cell 2 _ rfl
    have f2 := LKz.frozen 2
    have x3 := LKz.cell 3 _ rfl
    have f3 := LKz.frozen 3
    have y0 := LXz.cell 0 _ rfl
    have g0 := LXz.frozen 0
    have y1 := LXz.cell 1 _ rfl
    have g1 := LXz.frozen 1
    have y2 := LXz.cell 2 _ rfl
    have g2 := LXz.frozen 2
    have y3 := LXz.cell 3 _ rfl
    have g3 := LXz.frozen 3
    have LK2 := hid ((((((((LKz.set 0 (.int .u64 (lim x.1 0))).set 1 (.int .u64 (lim x.1 1))).set 2 (.int .u64 (lim x.1 2))).set 3 (.int .u64 (lim x.1 3))).other (p := ⟨(wr.heap.size + 1), 0, none⟩) (by simp) (.int .u64 (lim x.2 0))).other (p := ⟨(wr.heap.size + 1), 1, none⟩) (by simp) (.int .u64 (lim x.2 1))).other (p := ⟨(wr.heap.size + 1), 2, none⟩) (by simp) (.int .u64 (lim x.2 2))).other (p := ⟨(wr.heap.size + 1), 3, none⟩) (by simp) (.int .u64 (lim x.2 3)))
    have LX2 := hid ((((((((LXz.other (p := ⟨wr.heap.size, 0, none⟩) (by simp) (.int .u64 (lim x.1 0))).other (p := ⟨wr.heap.size, 1, none⟩) (by simp) (.int .u64 (lim x.1 1))).other (p := ⟨wr.heap.size, 2, none⟩) (by simp) (.int .u64 (lim x.1 2))).other (p := ⟨wr.heap.size, 3, none⟩) (by simp) (.int .u64 (lim x.1 3))).set 0 (.int .u64 (lim x.2 0))).set 1 (.int .u64 (lim x.2 1))).set 2 (.int .u64 (lim x.2 2))).set 3 (.int .u64 (lim x.2 3)))
    have Q2 := hid (((((((((QQ.out.trans (z.below.mono QQ.out.size)).setCell (p := ⟨wr.heap.size, 0, none⟩) (by simp) (.int .u64 (lim x.1 0))).setCell (p := ⟨wr.heap.size, 1, none⟩) (by simp) (.int .u64 (lim x.1 1))).setCell (p := ⟨wr.heap.size, 2, none⟩) (by simp) (.int .u64 (lim x.1 2))).setCell (p := ⟨wr.heap.size, 3, none⟩) (by simp) (.int .u64 (lim x.1 3))).setCell (p := ⟨(wr.heap.size + 1), 0, none⟩) (by simp) (.int .u64 (lim x.2 0))).setCell (p := ⟨(wr.heap.size + 1), 1, none⟩) (by simp) (.int .u64 (lim x.2 1))).setCell (p := ⟨(wr.heap.size + 1), 2, none⟩) (by simp) (.int .u64 (lim x.2 2))).setCell (p := ⟨(wr.heap.size + 1), 3, none⟩) (by simp) (.int .u64 (lim x.2 3)))
    replace LKz := hid LKz
    replace LXz := hid LXz
    go_wp2
    rw [calmPost_normal]
    clear x0 f0 x1 f1 x2 f2 x3 f3 y0 g0 y1 g1 y2 g2 y3 g3 LKz LXz LK LX
    obtain ⟨Ya, hY⟩ : ∃ Y, ((((((((z.w.setCell ⟨wr.heap.size, 0, none⟩ (.int .u64 (lim x.1 0))).setCell ⟨wr.heap.size, 1, none⟩ (.int .u64 (lim x.1 1))).setCell ⟨wr.heap.size, 2, none⟩ (.int .u64 (lim x.1 2))).setCell ⟨wr.heap.size, 3, none⟩ (.int .u64 (lim x.1 3))).setCell ⟨(wr.heap.size + 1), 0, none⟩ (.int .u64 (lim x.2 0))).setCell ⟨(wr.heap.size + 1), 1, none⟩ (.int .u64 (lim x.2 1))).setCell ⟨(wr.heap.size + 1), 2, none⟩ (.int .u64 (lim x.2 2))).setCell ⟨(wr.heap.size + 1), 3, none⟩ (.int .u64 (lim x.2 3))) = Y := ⟨_, rfl⟩
    rw [hY] at LK2 LX2 Q2 ⊢
    clear hY z
    have LK := hid (show Has Ya wr.heap.size 28 #[.int .u64 (lim x.1 0), .int .u64 (lim x.1 1), .int .u64 (lim x.1 2), .int .u64 (lim x.1 3)] from LK2.out)
    have LX := hid (show Has Ya (wr.heap.size + 1) 191 #[.int .u64 (lim x.2 0), .int .u64 (lim x.2 1), .int .u64 (lim x.2 2), .int .u64 (lim x.2 3), .int .u64 (0), .int .u64 (0), .int .u64 (0), .int .u64 (0), .bool false] from LX2.out)
    replace QQ := Q2
    clear LK2 LX2 Q2
    clear GC1 GC2 GB1 GB2 Gsa Gsb
    have GC1 := hid (G1.out.later QQ.out)
    have GC2 := hid (G2.out.later QQ.out)
    have GB1 := hid (G3.out.later QQ.out)
    have GB2 := hid (G4.out.later QQ.out)
    have Gsa := hid (G5.out.later QQ.out)
    have Gsb := hid (G6.out.later QQ.out)
    have K1 := hid (fun z : Ext Ya => Ext.at (key_at z.w B2 sb lb (GB2.out.later z.below) (Gsb.out.later z.below) j y hy.out))
    have K2 := hid (fun z : Ext Ya => Ext.at (val_at z.w B2 sb lb (GB2.out.later z.below) (Gsb.out.later z.below) j y hy.out))
    unfold wv at K1 K2
    have j1 : ∀ z : Ext Ya, z.w.cell? ⟨C2, 1, none⟩ = some (.func (.func 154) #[] #[.pointer (some ⟨B2, 0, none⟩)]) := fun z => (GC2.out.later z.below).cell 1 _ rfl
    have j2 : ∀ z : Ext Ya, z.w.cell? ⟨C2, 2, none⟩ = some (.func (.func 155) #[] #[.pointer (some ⟨B2, 0, none⟩)]) := fun z => (GC2.out.later z.below).cell 2 _ rfl
    gi_wp2_with fail
    refine wpIn_region_mix (C := Grows Ya) free_wide [some true, some true, some true, some true, some true, some true, some true, some true, none, none, none, none, none] hmx (by kernel_rfl) (by kernel_rfl) (grows_refl Ya) ?_
    simp only [headOf, tailOf]
    repeat (go_big_quiet_step (first | (with_reducible exact K1.out _) | (with_reducible exact K2.out _)))
    refine wpQuiet_nil ?_
    rintro _ ⟨z, rfl⟩
    clear j1 j2 K1 K2
    have LKz := LK.out.later z.below
    have LXz := LX.out.later z.below
    have x0 := LKz.cell 0 _ rfl
    have f0 := LKz.frozen 0
    have x1 := LKz.cell 1 _ rfl
    have f1 := LKz.frozen 1
    have x2 := LKz.cell 2 _ rfl
    have f2 := LKz.frozen 2
    have x3 := LKz.cell 3 _ rfl
    have f3 := LKz.frozen 3
    have y4 := LXz.cell 4 _ rfl
    have g4 := LXz.frozen 4
    have y5 := LXz.cell 5 _ rfl
    have g5 := LXz.frozen 5
    have y6 := LXz.cell 6 _ rfl
    have g6 := LXz.frozen 6
    have y7 := LXz.cell 7 _ rfl
    have g7 := LXz.frozen 7
    have y8 := LXz.cell 8 _ rfl
    have g8 := LXz.frozen 8
    have LK2 := hid (((((((((LKz.set 0 (.int .u64 (lim y.1 0))).set 1 (.int .u64 (lim y.1 1))).set 2 (.int .u64 (lim y.1 2))).set 3 (.int .u64 (lim y.1 3))).other (p := ⟨(wr.heap.size + 1), 4, none⟩) (by simp) (.int .u64 (lim y.2 0))).other (p := ⟨(wr.heap.size + 1), 5, none⟩) (by simp) (.int .u64 (lim y.2 1))).other (p := ⟨(wr.heap.size + 1), 6, none⟩) (by simp) (.int .u64 (lim y.2 2))).other (p := ⟨(wr.heap.size + 1), 7, none⟩) (by simp) (.int .u64 (lim y.2 3))).other (p := ⟨(wr.heap.size + 1), 8, none⟩) (by simp) (.bool true))
    have LX2 := hid (((((((((LXz.other (p := ⟨wr.heap.size, 0, none⟩) (by simp) (.int .u64 (lim y.1 0))).other (p := ⟨wr.heap.size, 1, none⟩) (by simp) (.int .u64 (lim y.1 1))).other (p := ⟨wr.heap.size, 2, none⟩) (by simp) (.int .u64 (lim y.1 2))).other (p := ⟨wr.heap.size, 3, none⟩) (by simp) (.int .u64 (lim y.1 3))).set 4 (.int .u64 (lim y.2 0))).set 5 (.int .u64 (lim y.2 1))).set 6 (.int .u64 (lim y.2 2))).set 7 (.int .u64 (lim y.2 3))).set 8 (.bool true))
    have Q2 := hid ((((((((((QQ.out.trans (z.below.mono QQ.out.size)).setCell (p := ⟨wr.heap.size, 0, none⟩) (by simp) (.int .u64 (lim y.1 0))).setCell (p := ⟨wr.heap.size, 1, none⟩) (by simp) (.int .u64 (lim y.1 1))).setCell (p := ⟨wr.heap.size, 2, none⟩) (by simp) (.int .u64 (lim y.1 2))).setCell (p := ⟨wr.heap.size, 3, none⟩) (by simp) (.int .u64 (lim y.1 3))).setCell (p := ⟨(wr.heap.size + 1), 4, none⟩) (by simp) (.int .u64 (lim y.2 0))).setCell (p := ⟨(wr.heap.size + 1), 5, none⟩) (by simp) (.int .u64 (lim y.2 1))).setCell (p := ⟨(wr.heap.size + 1), 6, none⟩) (by simp) (.int .u64 (lim y.2 2))).setCell (p := ⟨(wr.heap.size + 1), 7, none⟩) (by simp) (.int .u64 (lim y.2 3))).setCell (p := ⟨(wr.heap.size + 1), 8, none⟩) (by simp) (.bool true))
    replace LKz := hid LKz
    replace LXz := hid LXz
    go_wp2
    rw [calmPost_normal]
    clear x0 f0 x1 f1 x2 f2 x3 f3 y4 g4 y5 g5 y6 g6 y7 g7 y8 g8 LKz LXz LK LX
    obtain ⟨Yb, hY⟩ : ∃ Y, (((((((((z.w.setCell ⟨wr.heap.size, 0, none⟩ (.int .u64 (lim y.1 0))).setCell ⟨wr.heap.size, 1, none⟩ (.int .u64 (lim y.1 1))).setCell ⟨wr.heap.size, 2, none⟩ (.int .u64 (lim y.1 2))).setCell ⟨wr.heap.size, 3, none⟩ (.int .u64 (lim y.1 3))).setCell ⟨(wr.heap.size + 1), 4, none⟩ (.int .u64 (lim y.2 0))).setCell ⟨(wr.heap.size + 1), 5, none⟩ (.int .u64 (lim y.2 1))).setCell ⟨(wr.heap.size + 1), 6, none⟩ (.int .u64 (lim y.2 2))).setCell ⟨(wr.heap.size + 1), 7, none⟩ (.int .u64 (lim y.2 3))).setCell ⟨(wr.heap.size + 1), 8, none⟩ (.bool true)) = Y := ⟨_, rfl⟩
    rw [hY] at LK2 LX2 Q2 ⊢
    clear hY z
    have LK := hid (show Has Yb wr.heap.size 28 #[.int .u64 (lim y.1 0), .int .u64 (lim y.1 1), .int .u64 (lim y.1 2), .int .u64 (lim y.1 3)] from LK2.out)
    have LX := hid (show Has Yb (wr.heap.size + 1) 191 #[.int .u64 (lim x.2 0), .int .u64 (lim x.2 1), .int .u64 (lim x.2 2), .int .u64 (lim x.2 3), .int .u64 (lim y.2 0), .int .u64 (lim y.2 1), .int .u64 (lim y.2 2), .int .u64 (lim y.2 3), .bool true] from LX2.out)
    replace QQ := Q2
    clear LK2 LX2 Q2
    have hJf := HJA.out _ _ _ HJ.out QQ.out
    obtain ⟨fn, tmps, assign, body, hyy, hR⟩ := HY.out k #[.agg #[.int .u64 (lim y.1 0), .int .u64 (lim y.1 1), .int .u64 (lim y.1 2), .int .u64 (lim y.1 3)], .agg #[.int .u64 (lim x.2 0), .int .u64 (lim x.2 1), .int .u64 (lim x.2 2), .int .u64 (lim x.2 3), .int .u64 (lim y.2 0), .int .u64 (lim y.2 1), .int .u64 (lim y.2 2), .int .u64 (lim y.2 3), .bool true]] Yb hkN.out hJf ⟨⟨x.1, x.2, y.2, true⟩, hp.out, by simp [prV, wv, hxy.out]⟩
    have HKF := hid (HKT.out.trans (Kt.grow QQ.out hw0.out))
    have x0 := LK.out.cell 0 _ rfl
    have x1 := LK.out.cell 1 _ rfl
    have x2 := LK.out.cell 2 _ rfl
    have x3 := LK.out.cell 3 _ rfl
    have y0 := LX.out.cell 0 _ rfl
    have y1 := LX.out.cell 1 _ rfl
    have y2 := LX.out.cell 2 _ rfl
    have y3 := LX.out.cell 3 _ rfl
    have y4 := LX.out.cell 4 _ rfl
    have y5 := LX.out.cell 5 _ rfl
    have y6 := LX.out.cell 6 _ rfl
    have y7 := LX.out.cell 7 _ rfl
    have y8 := LX.out.cell 8 _ rfl
    clear hJf GC1 GC2 GB1 GB2 Gsa Gsb G1 G2 G3 G4 G5 G6
    gi_wp2_with fail
    clear x0 x1 x2 x3 y0 y1 y2 y3 y4 y5 y6 y7 y8 LK LX
    refine ⟨fun h => absurd h (by simp [Fence.wide]), (roundIn_any hR).mono ?_⟩
    rintro e W5 (⟨rfl, hJ5, hkt5⟩ | ⟨rfl, hJx5⟩)
    ·have HE := hid (And.intro hJ5 (HKF.out.trans hkt5))
     clear hJ5 hkt5 hR hyy
     gi_wp2_with fail
     go_roundw
     case rel => exact ⟨k + 1, i + 1, j + 1, by simp, by simp, by omega, by omega, hbn.out, hkN.out, HE.out.1, HE.out.2⟩
     case measure => simp [intOf]; omega
    ·have HE := hid hJx5
     clear hJx5 hR hyy
     gi_wp2_with fail
     refine bodyPost_ret (v := .tuple #[]) (by simp [results, Tryz.results164, go_sem]) rfl ⟨⟨_, rfl⟩, .inr ⟨k, hkN.out, HE.out⟩⟩
  ·have hiI : ¬ (i : Int) < (la.length : Int) := by omega
   have hjI : ¬ (j : Int) < (lb.length : Int) := by omega
   have hkN : k = (bothL la lb).length := by
    have e1 : la.drop i = [] := List.drop_eq_nil_of_le (by omega)
    have e2 : lb.drop j = [] := List.drop_eq_nil_of_le (by omega)
    rw [e1, e2, bothL] at hb
    have := congrArg List.length hb
    simp at this
    omega
   have HE := hid (show J (bothL la lb).length wr by rw [← hkN]; exact hJ)
   clear hJ hkt hb
   gi_wp2_with fail
   first | go_end0 | skip
   exact ⟨⟨_, rfl⟩, .inl HE.out⟩
end Go.Proofs.YtkicmbdjihjgfaaGreatDoor

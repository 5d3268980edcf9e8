/- Part. -/
import Derived.Laws.MakeOwn
import Derived.Laws.AppendOwn
import Derived.OwnWalkIn
import Derived.Test.YtkicmbdjihjgfaaGreatDoorH07
set_option maxRecDepth 100000
set_option maxHeartbeats 16000000
namespace Go.Proofs.YtkicmbdjihjgfaaGreatDoor
open Go Go.RowKit
attribute [local go_sem] Oper.semAt_some Grows wide_fn
def flat8 (l : List Sl) : List Value := l.flatMap slC
theorem flat8_length : ∀ (l : List Sl), (flat8 l).length = l.length * 8
 | [] => rfl
 | x :: l => by
  have := flat8_length l
  simp only [flat8, List.flatMap_cons, List.length_append, List.length_cons] at this ⊢
  rw [this]
  simp [slC]
  omega
theorem flat8_snoc (l : List Sl) (x : Sl) : flat8 (l ++ [x]) = flat8 l ++ slC x := by simp [flat8]
theorem slC_at (x : Sl) (j : Nat) (h : j < 8) : (slC x)[j]? = some (.int .u64 (slP x j)) := by
 obtain rfl | rfl | rfl | rfl | rfl | rfl | rfl | rfl : j = 0 ∨ j = 1 ∨ j = 2 ∨ j = 3 ∨ j = 4 ∨ j = 5 ∨ j = 6 ∨ j = 7 := by omega
 all_goals rfl
theorem flat8_at : ∀ (l : List Sl) (i : Nat) (x : Sl) (j : Nat), l[i]? = some x → j < 8 → (flat8 l)[i * 8 + j]? = some (.int .u64 (slP x j))
 | [], i, x, j, h, _ => by simp at h
 | y :: l, 0, x, j, h, hj => by
  simp at h
  subst h
  rw [show flat8 (y :: l) = slC y ++ flat8 l from rfl, List.getElem?_append_left (by simp [slC]; omega), Nat.zero_mul, Nat.zero_add]
  exact slC_at y j hj
 | y :: l, i + 1, x, j, h, hj => by
  rw [show flat8 (y :: l) = slC y ++ flat8 l from rfl, List.getElem?_append_right (by simp [slC]; omega), show (i + 1) * 8 + j - (slC y).length = i * 8 + j by simp [slC]; omega]
  exact flat8_at l i x j (by simpa using h) hj
def RowT (W : World) (base : Nat) (v : Value) (l : List Sl) : Prop := W.ownsRow base 63 8 v l.length (flat8 l)
theorem RowT.slots {W : World} {base : Nat} {v : Value} {l : List Sl} (h : RowT W base v l) (hw : ∀ x ∈ l, W256 x.1 ∧ W256 x.2) : SlotsAt W v l := by
 rcases h.2 with ⟨rfl, h0⟩ | ⟨g, cap, cur, rfl, hbg, hg', hnc, hcm, hcs, htake⟩
 ·have : l = [] := List.eq_nil_of_length_eq_zero h0
  subst this
  exact SlotsAt.nil W
 ·refine ⟨some ⟨g, 0, none⟩, cap, rfl, hnc, by simpa [maxLen] using hcm, hw, fun i x hx => ⟨⟨g, 0, none⟩, rfl, fun j hj => ?_⟩⟩
  rw [Addr.add_add]
  exact World.ownsRow.cells h (g := g) rfl _ _ (flat8_at l i x j hx hj)
theorem RowT.block {W : World} {base : Nat} {v : Value} {l : List Sl} (h : RowT W base v l) {b : Nat} (hb : v.ownBlock = some b) : base ≤ b ∧ ∃ cs, W.heap[b]? = some (.cells cs 63 (0, 0)) := by
 rcases h.2 with ⟨rfl, h0⟩ | ⟨g, cap, cur, rfl, hbg, hg', _⟩
 ·cases hb
 ·injection hb with hb
  subst hb
  exact ⟨hbg, cur, hg'⟩
theorem RowT.keep {A X : World} {base : Nat} {v : Value} {l : List Sl} (h : RowT A base v l) (hk : ∀ b cs, base ≤ b → A.heap[b]? = some (.cells cs 63 (0, 0)) → X.heap[b]? = some (.cells cs 63 (0, 0))) : RowT X base v l := by
 refine ⟨h.1, ?_⟩
 rcases h.2 with h' | ⟨g, cap, cur, e1, e2, e3, e4⟩
 ·exact .inl h'
 ·exact .inr ⟨g, cap, cur, e1, e2, hk g _ e2 e3, e4⟩
theorem RowT.later {A X : World} {base : Nat} {v : Value} {l : List Sl} (h : RowT A base v l) (hb : Below A.heap.size A X) : RowT X base v l :=
 h.keep (fun b _ _ ho => (hb.block b (Array.getElem?_eq_some_iff.1 ho).1).trans ho)
theorem RowT.shape {W : World} {base : Nat} {v : Value} {l : List Sl} (h : RowT W base v l) : ∃ a c, v = .slice a l.length c := by
 rcases h.2 with ⟨rfl, h0⟩ | ⟨g, cap, cur, rfl, _⟩
 ·exact ⟨none, 0, by rw [h0]⟩
 ·exact ⟨_, _, rfl⟩
theorem wpListIn_append_run {F : Fence} {n : Nat} {P : Program} {w w' : World} {ops : Array Oper} {rest : List Oper} {o : Oper} {a : Act} {Q : Exit → Act → World → Prop}
  (hg : o.guard = none) (s x : Operand) (t : TypeId) (hop : o.op = Op.call { callee := Callee.builtin Builtin.append, args := #[s, x], argTypes := #[t, t] })
  (v x0 v' : Value) (hs : a.eval s = v) (hx : a.eval x = x0) (hr : (Builtin.append_ #[t, t] o.type #[v, x0]).run P w = .ok v' w')
  (hK : wpListIn F n P ops Q rest (a.put o.dst v') w') : wpListIn F n P ops Q (o :: rest) a w := by
 refine wpListIn_plain hg fun K hK' => ?_
 unfold Oper.wpIn
 refine ⟨by simp [Oper.about, hop, resolve, Target.leads, Sem.run_pure], ?_⟩
 rw [Oper.semAt_plain F _ _ (by rw [hop]; intro c hc'; cases hc')]
 simp [execOp, hop, resolve, invoke, builtin, hs, hx, hr, Result.andThen]
 exact hK' _ _ hK
def ListedP (W : World) (wt : Pr → Option Nat) (la lb : List Sl) (e : Ending) (W' : World) : Prop :=
 ((listF wt (bothL la lb)).length ≤ 1000 ∧ (∃ sv, e = .returned (.tuple #[sv, .int .i64 0]) ∧ RowT W' W.heap.size sv (listF wt (bothL la lb))) ∨ ¬ (listF wt (bothL la lb)).length ≤ 1000 ∧ e = .returned (.tuple #[.slice none 0 0, .int .i64 2])) ∧ Below W.heap.size W W'
theorem infoS : (Tryz.prog.info? 63).map (fun i => (i.zero, i.size, i.bytes)) = some (some (.agg #[.int .u64 0, .int .u64 0, .int .u64 0, .int .u64 0, .int .u64 0, .int .u64 0, .int .u64 0, .int .u64 0]), 8, 64) := by kernel_rfl
theorem infoS_of : ∃ i, Tryz.prog.info? 63 = some i ∧ i.zero = some (.agg #[.int .u64 0, .int .u64 0, .int .u64 0, .int .u64 0, .int .u64 0, .int .u64 0, .int .u64 0, .int .u64 0]) ∧ i.size = 8 ∧ i.bytes = 64 := by
 have h := infoS
 rcases hi : Tryz.prog.info? 63 with _ | i
 ·rw [hi] at h; cases h
 ·rw [hi] at h
  injection h with h
  simp only [Prod.mk.injEq] at h
  exact ⟨i, rfl, h.1, h.2.1, h.2.2⟩
theorem run_mkS (n : Nat) (hn : n ≤ 1000) (W : World) : ∃ cs : Array Value, cs.size = n * 8 ∧ (Instr.makeSlice 29 (.int .i64 0) (.int .i64 (n : Int))).run Tryz.prog W = .ok (.slice (some ⟨W.heap.size, 0, none⟩) 0 n) (W.alloc (.cells cs 63)) := by
 obtain ⟨i, hi, hz, hsz, hb⟩ := infoS_of
 have h := run_make (P := Tryz.prog) W 29 63 i _ Tryz.underlying29 hi hz .i64 .i64 0 (n : Int) (by omega) (by omega) (by rw [hb]; omega) (by omega)
 simp only [Int.toNat_natCast, Int.toNat_zero] at h
 rw [hsz] at h
 exact ⟨_, size_madeCells _ _, h⟩
theorem Has.own' {A X : World} {row : Option Nat} {B : Nat} {t : TypeId} {cs : Array Value} (h : Has A B t cs) (hg : A.grownBy X row) (hr : ∀ r, row = some r → ∃ o : Obj, A.heap[r]? = some o ∧ o.isCells = false) : Has X B t cs := by
 refine (hg.block B h.lt (fun e => ?_)).trans h
 obtain ⟨o, ho, hc⟩ := hr B e.symm
 rw [show A.heap[B]? = _ from h] at ho
 cases ho
 cases hc
theorem below_own {w A X : World} {row : Option Nat} {n : Nat} (h : Below w.heap.size w A) (hg : A.grownBy X row) (hn : w.heap.size ≤ n) (hr : ∀ r, row = some r → n ≤ r) : Below w.heap.size w X :=
 ⟨hg.os.trans h.os, hg.tape.trans h.tape, hg.output.trans h.output, Nat.le_trans h.size hg.size, fun k hk => (hg.block k (Nat.lt_of_lt_of_le hk h.size) (fun e => by have := hr k e.symm; omega)).trans (h.block k hk)⟩
def LisSt (W0 : World) (wt : Pr → Option Nat) (la lb : List Sl) (f : FuncId) (T5 T6 T7 T8 S8 : Nat) (L : List Nat) (k : Nat) (W : World) : Prop :=
 ∃ sv, (Has W T8 29 #[sv] ∧ RowT W W0.heap.size sv (listF wt ((bothL la lb).take k)) ∧ (∀ b ∈ L, sv.ownBlock ≠ some b)) ∧ ((listF wt ((bothL la lb).take k)).length ≤ 1000 ∧ ∀ x ∈ listF wt ((bothL la lb).take k), W256 x.1 ∧ W256 x.2) ∧ (Has W T5 178 #[.func (.func f) #[] #[]] ∧ Has W T6 29 #[.slice none 0 0] ∧ Has W T7 46 #[.int .i64 0]) ∧ Below W0.heap.size W0 W ∧ S8 ≤ W.heap.size
def LisNo (W0 : World) (wt : Pr → Option Nat) (la lb : List Sl) (T6 T7 : Nat) (c : Code) (k : Nat) (W : World) : Prop := c = .ret ∧ ¬ (listF wt (bothL la lb)).length ≤ 1000 ∧ Has W T6 29 #[.slice none 0 0] ∧ Has W T7 46 #[.int .i64 2] ∧ Below W0.heap.size W0 W
variable {W0 : World} {wt : Pr → Option Nat} {la lb : List Sl} {f : FuncId} {T5 T6 T7 T8 S8 : Nat} {L : List Nat}
theorem LisSt.later {k : Nat} {A X : World} (h : LisSt W0 wt la lb f T5 T6 T7 T8 S8 L k A) (hb : Below A.heap.size A X) : LisSt W0 wt la lb f T5 T6 T7 T8 S8 L k X := by
 obtain ⟨sv, ⟨h1, h2, h3⟩, h4, ⟨h5, h6, h7⟩, h8, h9⟩ := h
 exact ⟨sv, ⟨h1.later hb, h2.later hb, h3⟩, h4, ⟨h5.later hb, h6.later hb, h7.later hb⟩, h8.trans (hb.mono h8.size), Nat.le_trans h9 hb.size⟩
theorem RowT.own' {A X : World} {row : Option Nat} {base : Nat} {v : Value} {l : List Sl} (h : RowT A base v l) (hg : A.grownBy X row) (hr : ∀ r, row = some r → ∃ o : Obj, A.heap[r]? = some o ∧ o.isCells = false) : RowT X base v l :=
 h.keep (fun b cs _ hb => Has.own' (show Has A b 63 cs from hb) hg hr)
theorem LisSt.base {k : Nat} {A : World} (h : LisSt W0 wt la lb f T5 T6 T7 T8 S8 L k A) : W0.heap.size ≤ A.heap.size := by
 obtain ⟨sv, _, _, _, h8, _⟩ := h
 exact h8.size
theorem LisSt.own {n : Nat} (hn : W0.heap.size ≤ n) : OwnFrom n (fun k W => LisSt W0 wt la lb f T5 T6 T7 T8 S8 L k W) := fun k A X row hs hg hr => by
 obtain ⟨sv, ⟨h1, h2, h3⟩, h4, ⟨h5, h6, h7⟩, h8, h9⟩ := hs
 have e := fun r e => (hr r e).2
 exact ⟨sv, ⟨h1.own' hg e, h2.own' hg e, h3⟩, h4, ⟨h5.own' hg e, h6.own' hg e, h7.own' hg e⟩, below_own h8 hg hn (fun r e => (hr r e).1), Nat.le_trans h9 hg.size⟩
theorem LisNo.later {c : Code} {k : Nat} {A X : World} (h : LisNo W0 wt la lb T6 T7 c k A) (hb : Below A.heap.size A X) : LisNo W0 wt la lb T6 T7 c k X :=
 ⟨h.1, h.2.1, h.2.2.1.later hb, h.2.2.2.1.later hb, h.2.2.2.2.trans (hb.mono h.2.2.2.2.size)⟩
theorem LisNo.own {n : Nat} (hn : W0.heap.size ≤ n) (c : Code) : OwnFrom n (fun k W => LisNo W0 wt la lb T6 T7 c k W) := fun k A X row hs hg hr =>
 ⟨hs.1, hs.2.1, hs.2.2.1.own' hg (fun r e => (hr r e).2), hs.2.2.2.1.own' hg (fun r e => (hr r e).2), below_own hs.2.2.2.2 hg hn (fun r e => (hr r e).1)⟩
theorem listF_take (w : Pr → Option Nat) (l : List Pr) (k : Nat) (p : Pr) (h : l[k]? = some p) : listF w (l.take (k + 1)) = listF w (l.take k) ++ (match w p with | some v => [(p.key, v)] | none => []) := by
 rw [List.take_succ_eq_append_getElem (List.getElem?_eq_some_iff.1 h).1, (List.getElem?_eq_some_iff.1 h).2]
 unfold listF
 rw [List.filterMap_append]
 congr 1
 rcases hw : w p with _ | v <;> simp [hw]
theorem listF_part (w : Pr → Option Nat) (l : List Pr) (k : Nat) : (listF w (l.take k)).length ≤ (listF w l).length := by
 unfold listF
 have := List.take_append_drop k l
 conv => rhs; rw [← this]
 rw [List.filterMap_append, List.length_append]
 omega
theorem bothL_wide (a b : List Sl) (ha : ∀ x ∈ a, W256 x.1 ∧ W256 x.2) (hb : ∀ x ∈ b, W256 x.1 ∧ W256 x.2) : ∀ p ∈ bothL a b, W256 p.key ∧ W256 p.fst ∧ W256 p.snd := by
 have z : W256 0 := by unfold W256; omega
 fun_induction bothL a b with
 | case1 => intro p hp; cases hp
 | case2 y b ih =>
  intro p hp
  rcases List.mem_cons.1 hp with rfl | hp
  ·exact ⟨(hb y (by simp)).1, z, (hb y (by simp)).2⟩
  ·exact ih ha (fun x hx => hb x (by simp [hx])) p hp
 | case3 x a ih =>
  intro p hp
  rcases List.mem_cons.1 hp with rfl | hp
  ·exact ⟨(ha x (by simp)).1, (ha x (by simp)).2, z⟩
  ·exact ih (fun x hx => ha x (by simp [hx])) hb p hp
 | case4 x a y b h ih =>
  intro p hp
  rcases List.mem_cons.1 hp with rfl | hp
  ·exact ⟨(ha x (by simp)).1, (ha x (by simp)).2, z⟩
  ·exact ih (fun x hx => ha x (by simp [hx])) hb p hp
 | case5 x a y b h h' ih =>
  intro p hp
  rcases List.mem_cons.1 hp with rfl | hp
  ·exact ⟨(hb y (by simp)).1, z, (hb y (by simp)).2⟩
  ·exact ih ha (fun x hx => hb x (by simp [hx])) p hp
 | case6 x a y b h h' ih =>
  intro p hp
  rcases List.mem_cons.1 hp with rfl | hp
  ·exact ⟨(ha x (by simp)).1, (ha x (by simp)).2, (hb y (by simp)).2⟩
  ·exact ih (fun x hx => ha x (by simp [hx])) (fun x hx => hb x (by simp [hx])) p hp
theorem keeps_below {A X : World} {m n : Nat} (h : Below A.heap.size A X) : KeepsFrom n A X := ⟨h.size, fun k o _ ho _ => (h.block k (Array.getElem?_eq_some_iff.1 ho).1).trans ho⟩
theorem RowT.other {A X : World} {base B : Nat} {t : TypeId} {cs : Array Value} {v : Value} {l : List Sl} (h : RowT A base v l) (hB : Has A B t cs) (ht : t ≠ 63) : v.ownBlock ≠ some B := fun e => by
 obtain ⟨_, cs', h'⟩ := h.block e
 rw [show A.heap[B]? = _ from hB] at h'
 injection h' with h'
 injection h' with _ h' _
 exact ht h'
theorem Has.rowT {A X : World} {base B : Nat} {t : TypeId} {cs : Array Value} {v : Value} {l : List Sl} (hB : Has A B t cs) (h : RowT A base v l) (ht : t ≠ 63) (hg : A.grownBy X v.ownBlock) : Has X B t cs :=
 (hg.block B hB.lt (fun e => h.other (X := X) hB ht e.symm)).trans hB
theorem SlotsAt.wideAll {W : World} {v : Value} {l : List Sl} (h : SlotsAt W v l) : ∀ x ∈ l, W256 x.1 ∧ W256 x.2 := by
 obtain ⟨_, _, _, _, _, h4, _⟩ := h
 exact h4
theorem listed_any (W : World) (sa sb : Value) (la lb : List Sl) (ha : SlotsAt W sa la) (hb : SlotsAt W sb lb) (f : FuncId) (wt : Pr → Option Nat) (hw : WantOK f wt) (hcf : ∀ args w, (callFunc f args).run Tryz.prog w = .ok (.enter f args) w) (hla : la.length ≤ 1000) (hlb : lb.length ≤ 1000) :
  Calls Tryz.prog 146 #[sa, sb, .func (.func f) #[] #[]] W (ListedP W wt la lb) := by
 have hmx : Tryz.prog.follows .mixedOrders = true := by kernel_rfl
 obtain ⟨a, ca, rfl, _⟩ := ha.shape
 obtain ⟨b, cb, rfl, _⟩ := hb.shape
 have HA := hid ha
 have HB := hid hb
 have HW := hid hw
 have HL := hid (And.intro hla hlb)
 obtain ⟨m, hm⟩ : ∃ m : Nat, ((la.length : Nat) : Int) + ((lb.length : Nat) : Int) = (m : Int) := ⟨la.length + lb.length, by omega⟩
 have hm2 : (m : Int) ≤ 2000 := by omega
 have hm0 : (0 : Int) ≤ (m : Int) := by omega
 have W30 := ((Has.new W 178 #[.func (.func f) #[] #[]]).alloc (.cells #[.slice none 0 0] 29)).alloc (.cells #[.int .i64 0] 46)
 have W31 := (Has.new (W.alloc (.cells #[.func (.func f) #[] #[]] 178)) 29 #[.slice none 0 0]).alloc (.cells #[.int .i64 0] 46)
 have W32 := Has.new ((W.alloc (.cells #[.func (.func f) #[] #[]] 178)).alloc (.cells #[.slice none 0 0] 29)) 46 #[.int .i64 0]
 simp only [World.size_alloc] at W31 W32
 have q3 := ((newA W (.cells #[.func (.func f) #[] #[]] 178)).alloc (by simp) (.cells #[.slice none 0 0] 29)).alloc (by simp; omega) (.cells #[.int .i64 0] 46)
 have hs3 : (((W.alloc (.cells #[.func (.func f) #[] #[]] 178)).alloc (.cells #[.slice none 0 0] 29)).alloc (.cells #[.int .i64 0] 46)).heap.size = W.heap.size + 1 + 1 + 1 := by simp
 obtain ⟨W3, hW3⟩ : ∃ W3, ((W.alloc (.cells #[.func (.func f) #[] #[]] 178)).alloc (.cells #[.slice none 0 0] 29)).alloc (.cells #[.int .i64 0] 46) = W3 := ⟨_, rfl⟩
 rw [hW3] at W30 W31 W32 q3 hs3
 have H30 := hid W30
 have H31 := hid W31
 have H32 := hid W32
 have Hq3 := hid q3
 have Hs3 := hid hs3
 clear W30 W31 W32 q3 hs3
 have hcap : (m : Int) ≤ 1000 ∨ ¬ (m : Int) ≤ 1000 := by omega
 clear ha hb hw hla hlb
 refine (callsIn_wide (n := 8)).1 ?_
 refine callsIn_of_wp_marks Tryz.func146 rfl trivial ?_ rfl
 simp only [Tryz.ntmps146, List.size_toArray, List.length_cons, List.length_nil, Nat.reduceAdd, Nat.reduceSub, Array.replicate_succ, Array.replicate_zero, List.push_toArray, List.append_toArray, List.nil_append, List.cons_append]
 rcases hcap with hcap | hcap
 ·obtain ⟨cs, hcs, hmk0⟩ := run_mkS m (by omega) W3
  have hmk : (Instr.makeSlice 29 (.int .i64 0) (.int .i64 (m : Int))).run Tryz.prog W3 = .ok (.slice (some ⟨W3.heap.size, 0, none⟩) 0 m) (W3.alloc (.cells cs 63)) := hmk0
  have NG := Has.new W3 63 cs
  have q4 := newA W3 (.cells cs 63)
  obtain ⟨W4, hW4⟩ : ∃ W4, W3.alloc (.cells cs 63) = W4 := ⟨_, rfl⟩
  rw [hW4] at NG q4 hmk
  have hs4 : W4.heap.size = W3.heap.size + 1 := by rw [← hW4]; simp
  have N8 := Has.new W4 29 #[.slice none 0 0]
  have L8 := Has.new W4 29 #[.slice (some ⟨W3.heap.size, 0, none⟩) 0 m]
  have x0 := N8.cell 0 _ rfl
  have f0 := N8.frozen 0
  have y0 := L8.cell 0 _ rfl
  have g0 := L8.frozen 0
  have q5 := newA W4 (.cells #[.slice (some ⟨W3.heap.size, 0, none⟩) 0 m] 29)
  have q35 := q4.trans (q5.mono q4.size)
  have hrow := hid (show RowT (W4.alloc (.cells #[.slice (some ⟨W3.heap.size, 0, none⟩) 0 m] 29)) W.heap.size (.slice (some ⟨W3.heap.size, 0, none⟩) 0 m) [] from ⟨rfl, .inr ⟨W3.heap.size, m, cs, rfl, by have := Hs3.out; omega, NG.later q5, Nat.zero_le _, by unfold maxLen; omega, hcs, rfl⟩⟩)
  replace hcs := hid hcs
  replace NG := hid NG
  replace q4 := hid q4
  replace q5 := hid q5
  replace q35 := hid q35
  replace N8 := hid N8
  replace L8 := hid L8
  replace hs4 := hid hs4
  replace hW4 := hid hW4
  clear hmk0
  gi_wp2_with fail
  clear x0 f0 y0 g0 hmk N8
  obtain ⟨W5, hW5⟩ : ∃ W5, W4.alloc (.cells #[.slice (some ⟨W3.heap.size, 0, none⟩) 0 m] 29) = W5 := ⟨_, rfl⟩
  rw [hW5] at hrow L8 q35 ⊢
  have Q5 := hid (Hq3.out.trans (q35.out.mono Hq3.out.size))
  have G5 := hid (H30.out.later q35.out)
  have G6 := hid (H31.out.later q35.out)
  have G7 := hid (H32.out.later q35.out)
  clear hW5 q4 q5 q35 hcs NG hW4
  refine (callsIn_free free_wide (slots_any W5 _ la (HA.out.later Q5.out))).mono ?_
  rintro _ W6 ⟨B1, rfl, hB1, hH1, q6⟩
  have hE1 := hid (And.intro hB1 hH1)
  have Hq6 := hid q6
  clear hB1 hH1 q6
  gi_wp2_with fail
  refine (callsIn_free free_wide (slots_any W6 _ lb (HB.out.later (Q5.out.trans (Hq6.out.mono Q5.out.size))))).mono ?_
  rintro _ W7 ⟨B2, rfl, hB2, hH2, q7⟩
  have hE2 := hid (And.intro hB2 hH2)
  have Hq7 := hid q7
  clear hB2 hH2 q7
  gi_wp2_with fail
  refine (callsIn_free free_wide (both_any W7 la.length lb.length B1 B2)).mono ?_
  rintro _ W8 ⟨C1, C2, rfl, hC1, hC2, hK1, hK2, q8⟩
  have q58 := Hq6.out.trans ((Hq7.out.trans (q8.mono Hq7.out.size)).mono Hq6.out.size)
  have q68 := Hq7.out.trans (q8.mono Hq7.out.size)
  have hT := hid (show W.heap.size < W5.heap.size ∧ W.heap.size + 1 < W5.heap.size ∧ W.heap.size + 1 + 1 < W5.heap.size ∧ W4.heap.size < W5.heap.size ∧ W5.heap.size ≤ B1 ∧ W5.heap.size ≤ B2 ∧ W5.heap.size ≤ C1 ∧ W5.heap.size ≤ C2 from ⟨G5.out.lt, G6.out.lt, G7.out.lt, L8.out.lt, hE1.out.1, Nat.le_trans Hq6.out.size hE2.out.1, Nat.le_trans (Nat.le_trans Hq6.out.size Hq7.out.size) hC1, Nat.le_trans (Nat.le_trans Hq6.out.size Hq7.out.size) hC2⟩)
  have hB18 := hE1.out.2.later q68
  have hB28 := hE2.out.2.later q8
  have hlt8 := hid (show B1 < W8.heap.size ∧ B2 < W8.heap.size ∧ C1 < W8.heap.size ∧ C2 < W8.heap.size from ⟨hB18.lt, hB28.lt, hK1.lt, hK2.lt⟩)
  have Q8 := hid (Q5.out.trans (q58.mono Q5.out.size))
  have hq8 := hid q58
  have HSEQ := hid (both_seq 7 la lb (.slice a la.length ca) (.slice b lb.length cb) B1 B2 C1 C2 W W8 HA.out HB.out Q8.out hK1 hK2 hB18 hB28 (by have := HL.out; omega) (by have := HL.out; omega))
  have HST0 := hid (show LisSt W wt la lb f W.heap.size (W.heap.size + 1) (W.heap.size + 1 + 1) W4.heap.size W8.heap.size [C1, C2, B1, B2] 0 W8 from ⟨_, ⟨L8.out.later q58, by simpa [listF] using hrow.out.later q58, fun b hb e => by
   have e1 : W3.heap.size = b := by injection e
   have := hT.out
   have := hs4.out
   simp at hb
   omega⟩, ⟨by simp [listF], fun x hx => by simp [listF] at hx⟩, ⟨G5.out.later q58, G6.out.later q58, G7.out.later q58⟩, Q8.out, Nat.le_refl _⟩)
  clear q58 q68 hB18 hB28 hC1 hC2 hK1 hK2 q8 hE1 hE2 Hq6 Hq7 hrow G5 G6 G7 L8
  gi_wp2_with fail
  refine wpIn_rangeFunc_C rfl (by omega) (gf := 164) (lb := #[.pointer (some ⟨C1, 0, none⟩), .pointer (some ⟨C2, 0, none⟩)]) rfl trivial (enters_of Tryz.func164 (by kernel_rfl) rfl)
   HSEQ.out Gr.keeps Kt.trans (fun W' l o o' hl h1 h2 _ => ⟨⟨rfl, rfl, rfl, by simp, fun k hk => World.putObj_heap_other (by have := Q8.out.size; omega)⟩, fun b hb _ => World.putObj_heap_other (by have := hlt8.out; simp at hb; omega)⟩) (fun k args W' _ hE => by obtain ⟨p, _, e⟩ := hE; rw [e]; rfl)
   (fun k W' => LisSt W wt la lb f W.heap.size (W.heap.size + 1) (W.heap.size + 1 + 1) W4.heap.size W8.heap.size [C1, C2, B1, B2] k W') (fun c k W' => LisNo W wt la lb (W.heap.size + 1) (W.heap.size + 1 + 1) c k W') (LisSt.own Q8.out.size) (fun c => LisNo.own Q8.out.size c)
   (fun s A X hs hb => hs.later hb) (fun c s A X hs hb => hs.later hb) HST0.out
   (fun k a' V => ∃ p bx bp, (bothL la lb)[k]? = some p ∧ Has V bx 28 #[.int .u64 (lim p.key 0), .int .u64 (lim p.key 1), .int .u64 (lim p.key 2), .int .u64 (lim p.key 3)] ∧ Has V bp 191 #[.int .u64 (lim p.fst 0), .int .u64 (lim p.fst 1), .int .u64 (lim p.fst 2), .int .u64 (lim p.fst 3), .int .u64 (lim p.snd 0), .int .u64 (lim p.snd 1), .int .u64 (lim p.snd 2), .int .u64 (lim p.snd 3), .bool p.ins] ∧ a' = { tmps := #[.slice a la.length ca, .slice b lb.length cb, .func (.func f) #[] #[], undef, undef, .pointer (some ⟨W.heap.size, 0, none⟩), .pointer (some ⟨W.heap.size + 1, 0, none⟩), .pointer (some ⟨W.heap.size + 1 + 1, 0, none⟩), .pointer (some ⟨W4.heap.size, 0, none⟩), .pointer (some ⟨bx, 0, none⟩), .pointer (some ⟨bp, 0, none⟩), undef, undef, .slice a la.length ca, .int .i64 ((la.length : Nat) : Int), .slice b lb.length cb, .int .i64 ((lb.length : Nat) : Int), .int .i64 (m : Int), .int .i64 (m : Int), .slice (some ⟨W3.heap.size, 0, none⟩) 0 m, .slice a la.length ca, .agg #[.int .i64 ((la.length : Nat) : Int), .func (.func 154) #[] #[.pointer (some ⟨B1, 0, none⟩)], .func (.func 155) #[] #[.pointer (some ⟨B1, 0, none⟩)], .func (.func 156) #[] #[]], .slice b lb.length cb, .agg #[.int .i64 ((lb.length : Nat) : Int), .func (.func 154) #[] #[.pointer (some ⟨B2, 0, none⟩)], .func (.func 155) #[] #[.pointer (some ⟨B2, 0, none⟩)], .func (.func 156) #[] #[]], .func (.func 164) #[] #[.pointer (some ⟨C1, 0, none⟩), .pointer (some ⟨C2, 0, none⟩)], .agg #[.int .u64 (lim p.key 0), .int .u64 (lim p.key 1), .int .u64 (lim p.key 2), .int .u64 (lim p.key 3)], .agg #[.int .u64 (lim p.fst 0), .int .u64 (lim p.fst 1), .int .u64 (lim p.fst 2), .int .u64 (lim p.fst 3), .int .u64 (lim p.snd 0), .int .u64 (lim p.snd 1), .int .u64 (lim p.snd 2), .int .u64 (lim p.snd 3), .bool p.ins], undef, undef, undef, undef, undef, undef, undef, undef, undef, undef, undef, undef, undef, undef, undef, undef, undef, undef], defers := [] })
   (fun k a' _ X Y row hs hg hr => by
    obtain ⟨p, bx, bp, h1, h2, h3, e⟩ := hs
    exact ⟨p, bx, bp, h1, h2.own' hg (fun r e => (hr r e).2), h3.own' hg (fun r e => (hr r e).2), e⟩) ?assign ?body ?done ?stop
  case assign =>
   intro ll k args W1 K hll hkN hst hE hK
   obtain ⟨p, hp, rfl⟩ := hE
   unfold wv prV
   have HST := hid hst
   have HK := hid hK
   have HP := hid hp
   clear hst hkN hK hp
   have N1 := Has.new W1 28 #[.int .u64 0, .int .u64 0, .int .u64 0, .int .u64 0]
   have M1 := Has.new W1 28 #[.int .u64 (lim p.key 0), .int .u64 (lim p.key 1), .int .u64 (lim p.key 2), .int .u64 (lim p.key 3)]
   have N2 := Has.new (W1.alloc (.cells #[.int .u64 (lim p.key 0), .int .u64 (lim p.key 1), .int .u64 (lim p.key 2), .int .u64 (lim p.key 3)] 28)) 191 #[.int .u64 0, .int .u64 0, .int .u64 0, .int .u64 0, .int .u64 0, .int .u64 0, .int .u64 0, .int .u64 0, .bool false]
   have M2 := Has.new (W1.alloc (.cells #[.int .u64 (lim p.key 0), .int .u64 (lim p.key 1), .int .u64 (lim p.key 2), .int .u64 (lim p.key 3)] 28)) 191 #[.int .u64 (lim p.fst 0), .int .u64 (lim p.fst 1), .int .u64 (lim p.fst 2), .int .u64 (lim p.fst 3), .int .u64 (lim p.snd 0), .int .u64 (lim p.snd 1), .int .u64 (lim p.snd 2), .int .u64 (lim p.snd 3), .bool p.ins]
   simp only [World.size_alloc] at N2 M2
   have x0 := N1.cell 0 _ rfl
   have f0 := N1.frozen 0
   have y0 := M1.cell 0 _ rfl
   have g0 := M1.frozen 0
   have x1 := N1.cell 1 _ rfl
   have f1 := N1.frozen 1
   have y1 := M1.cell 1 _ rfl
   have g1 := M1.frozen 1
   have x2 := N1.cell 2 _ rfl
   have f2 := N1.frozen 2
   have y2 := M1.cell 2 _ rfl
   have g2 := M1.frozen 2
   have x3 := N1.cell 3 _ rfl
   have f3 := N1.frozen 3
   have y3 := M1.cell 3 _ rfl
   have g3 := M1.frozen 3
   have u0 := N2.cell 0 _ rfl
   have v0 := N2.frozen 0
   have w0 := M2.cell 0 _ rfl
   have z0 := M2.frozen 0
   have u1 := N2.cell 1 _ rfl
   have v1 := N2.frozen 1
   have w1 := M2.cell 1 _ rfl
   have z1 := M2.frozen 1
   have u2 := N2.cell 2 _ rfl
   have v2 := N2.frozen 2
   have w2 := M2.cell 2 _ rfl
   have z2 := M2.frozen 2
   have u3 := N2.cell 3 _ rfl
   have v3 := N2.frozen 3
   have w3 := M2.cell 3 _ rfl
   have z3 := M2.frozen 3
   have u4 := N2.cell 4 _ rfl
   have v4 := N2.frozen 4
   have w4 := M2.cell 4 _ rfl
   have z4 := M2.frozen 4
   have u5 := N2.cell 5 _ rfl
   have v5 := N2.frozen 5
   have w5 := M2.cell 5 _ rfl
   have z5 := M2.frozen 5
   have u6 := N2.cell 6 _ rfl
   have v6 := N2.frozen 6
   have w6 := M2.cell 6 _ rfl
   have z6 := M2.frozen 6
   have u7 := N2.cell 7 _ rfl
   have v7 := N2.frozen 7
   have w7 := M2.cell 7 _ rfl
   have z7 := M2.frozen 7
   have u8 := N2.cell 8 _ rfl
   have v8 := N2.frozen 8
   have w8 := M2.cell 8 _ rfl
   have z8 := M2.frozen 8
   have M1' := hid (M1.alloc (.cells #[.int .u64 (lim p.fst 0), .int .u64 (lim p.fst 1), .int .u64 (lim p.fst 2), .int .u64 (lim p.fst 3), .int .u64 (lim p.snd 0), .int .u64 (lim p.snd 1), .int .u64 (lim p.snd 2), .int .u64 (lim p.snd 3), .bool p.ins] 191))
   have hg := hid ((newA W1 (.cells #[.int .u64 (lim p.key 0), .int .u64 (lim p.key 1), .int .u64 (lim p.key 2), .int .u64 (lim p.key 3)] 28)).alloc (by simp) (.cells #[.int .u64 (lim p.fst 0), .int .u64 (lim p.fst 1), .int .u64 (lim p.fst 2), .int .u64 (lim p.fst 3), .int .u64 (lim p.snd 0), .int .u64 (lim p.snd 1), .int .u64 (lim p.snd 2), .int .u64 (lim p.snd 3), .bool p.ins] 191))
   replace N1 := hid N1
   replace M1 := hid M1
   replace N2 := hid N2
   replace M2 := hid M2
   gi_wp2_with fail
   exact HK.out _ _ (keeps_below (m := 0) hg.out) (Kt.grow hg.out (HST.out.base)) (HST.out.later hg.out) ⟨p, W1.heap.size, W1.heap.size + 1, HP.out, M1'.out, M2.out, rfl⟩
  case body =>
   rintro ll k a' W1 hll hlo hkN hst ⟨p, bx, bp, hp, hbx, hbp, rfl⟩
   obtain ⟨sv, ⟨s1, s2, s3⟩, ⟨s4, s5⟩, ⟨s6, s7, s8⟩, s9, s10⟩ := hst
   have hwp := bothL_wide la lb HA.out.wideAll HB.out.wideAll p (List.mem_of_getElem? hp)
   obtain ⟨sa', sc, rfl⟩ := s2.shape
   have c5 := s6.cell 0 _ rfl
   have z0 := hbp.cell 0 _ rfl
   have z1 := hbp.cell 1 _ rfl
   have z2 := hbp.cell 2 _ rfl
   have z3 := hbp.cell 3 _ rfl
   have z4 := hbp.cell 4 _ rfl
   have z5 := hbp.cell 5 _ rfl
   have z6 := hbp.cell 6 _ rfl
   have z7 := hbp.cell 7 _ rfl
   have z8 := hbp.cell 8 _ rfl
   have HC := hid (HW.out W1 p hwp.2.1 hwp.2.2)
   have HP := hid hp
   have HWP := hid hwp
   have S := hid (show (Has W1 W4.heap.size 29 #[.slice sa' (listF wt ((bothL la lb).take k)).length sc] ∧ RowT W1 W.heap.size (.slice sa' (listF wt ((bothL la lb).take k)).length sc) (listF wt ((bothL la lb).take k)) ∧ ∀ b ∈ [C1, C2, B1, B2], Value.ownBlock (.slice sa' (listF wt ((bothL la lb).take k)).length sc) ≠ some b) ∧ ((listF wt ((bothL la lb).take k)).length ≤ 1000 ∧ ∀ x ∈ listF wt ((bothL la lb).take k), W256 x.1 ∧ W256 x.2) ∧ (Has W1 W.heap.size 178 #[.func (.func f) #[] #[]] ∧ Has W1 (W.heap.size + 1) 29 #[.slice none 0 0] ∧ Has W1 (W.heap.size + 1 + 1) 46 #[.int .i64 0]) ∧ Below W.heap.size W W1 ∧ W8.heap.size ≤ W1.heap.size from ⟨⟨s1, s2, s3⟩, ⟨s4, s5⟩, ⟨s6, s7, s8⟩, s9, s10⟩)
   have HBX := hid hbx
   clear s1 s2 s3 s4 s5 s6 s7 s8 s9 s10 hp hwp hbp hbx hlo HST0 HSEQ
   gi_wp2_with fail
   clear z0 z1 z2 z3 z4 z5 z6 z7 z8 c5
   refine (callsIn_free (free_round ll) HC.out).mono ?_
   rintro _ W2 ⟨v, b, rfl, hwv, hwt, q2⟩
   unfold wv
   have NV := Has.new W2 28 #[.int .u64 0, .int .u64 0, .int .u64 0, .int .u64 0]
   have LV := Has.new W2 28 #[.int .u64 (lim v 0), .int .u64 (lim v 1), .int .u64 (lim v 2), .int .u64 (lim v 3)]
   have q3 := newA W2 (.cells #[.int .u64 (lim v 0), .int .u64 (lim v 1), .int .u64 (lim v 2), .int .u64 (lim v 3)] 28)
   have q23 := q2.trans (q3.mono q2.size)
   have x0 := NV.cell 0 _ rfl
   have f0 := NV.frozen 0
   have y0 := LV.cell 0 _ rfl
   have g0 := LV.frozen 0
   have x1 := NV.cell 1 _ rfl
   have f1 := NV.frozen 1
   have y1 := LV.cell 1 _ rfl
   have g1 := LV.frozen 1
   have x2 := NV.cell 2 _ rfl
   have f2 := NV.frozen 2
   have y2 := LV.cell 2 _ rfl
   have g2 := LV.frozen 2
   have x3 := NV.cell 3 _ rfl
   have f3 := NV.frozen 3
   have y3 := LV.cell 3 _ rfl
   have g3 := LV.frozen 3
   have HN := hid (And.intro hwv hwt)
   have Q23 := hid q23
   have LVH := hid LV
   have S1 := hid (S.out.1.1.later q23)
   have S2 := hid (S.out.1.2.1.later q23)
   have S7 := hid (S.out.2.2.1.2.1.later q23)
   have S8 := hid (S.out.2.2.1.2.2.later q23)
   have k8 := S1.out.cell 0 _ rfl
   replace NV := hid NV
   replace LV := hid LV
   clear q2 q3 q23 hwv hwt HC
   cases b
   ·have HE := hid (show LisSt W wt la lb f W.heap.size (W.heap.size + 1) (W.heap.size + 1 + 1) W4.heap.size W8.heap.size [C1, C2, B1, B2] (k + 1) (W2.alloc (.cells #[.int .u64 (lim v 0), .int .u64 (lim v 1), .int .u64 (lim v 2), .int .u64 (lim v 3)] 28)) from by
     have h0 : LisSt W wt la lb f W.heap.size (W.heap.size + 1) (W.heap.size + 1 + 1) W4.heap.size W8.heap.size [C1, C2, B1, B2] k W1 := ⟨_, S.out⟩
     have h1 := h0.later Q23.out
     have e : listF wt ((bothL la lb).take (k + 1)) = listF wt ((bothL la lb).take k) := by
      rw [listF_take wt _ k p HP.out, HN.out.2]
      simp
     unfold LisSt at h1 ⊢
     rw [e]
     exact h1)
    gi_wp2_with fail
    exact ⟨keeps_below (m := 0) Q23.out, Kt.grow Q23.out S.out.2.2.2.1.size, HE.out⟩
   ·have e : listF wt ((bothL la lb).take (k + 1)) = listF wt ((bothL la lb).take k) ++ [(p.key, v)] := by
     rw [listF_take wt _ k p HP.out, HN.out.2]
     simp
    have hlen := S.out.2.1.1
    obtain ⟨n, hn⟩ : ∃ n, (listF wt ((bothL la lb).take k)).length = n := ⟨_, rfl⟩
    have HEN := hid (And.intro e hn)
    clear e
    rw [hn] at k8 hlen S1 S2
    by_cases h1000 : n = 1000
    ·have hnI : (n : Int) = 1000 := by omega
     have HNO := hid (show ¬ (listF wt (bothL la lb)).length ≤ 1000 from fun h => by
      have h1 := listF_part wt (bothL la lb) (k + 1)
      rw [HEN.out.1, List.length_append, HEN.out.2] at h1
      simp at h1
      omega)
     have k6 := S7.out.cell 0 _ rfl
     have f6 := S7.out.frozen 0
     have k7 := S8.out.cell 0 _ rfl
     have f7 := S8.out.frozen 0
     have A6 := hid ((S7.out.set 0 (.slice none 0 0)).other (p := ⟨W.heap.size + 1 + 1, 0, none⟩) (by simp) (.int .i64 2))
     have A7 := hid ((S8.out.other (p := ⟨W.heap.size + 1, 0, none⟩) (by simp) (.slice none 0 0)).set 0 (.int .i64 2))
     have QE := hid (((S.out.2.2.2.1.trans (Q23.out.mono S.out.2.2.2.1.size)).setCell (p := ⟨W.heap.size + 1, 0, none⟩) (by simp) (.slice none 0 0)).setCell (p := ⟨W.heap.size + 1 + 1, 0, none⟩) (by simp; omega) (.int .i64 2))
     have KE := hid ((keeps_below (m := 0) (n := W8.heap.size) Q23.out).trans (((KeepsOthers.setCell (W2.alloc (.cells #[.int .u64 (lim v 0), .int .u64 (lim v 1), .int .u64 (lim v 2), .int .u64 (lim v 3)] 28)) ⟨W.heap.size + 1, 0, none⟩ (.slice none 0 0)).from W8.heap.size).trans ((KeepsOthers.setCell ((W2.alloc (.cells #[.int .u64 (lim v 0), .int .u64 (lim v 1), .int .u64 (lim v 2), .int .u64 (lim v 3)] 28)).setCell ⟨W.heap.size + 1, 0, none⟩ (.slice none 0 0)) ⟨W.heap.size + 1 + 1, 0, none⟩ (.int .i64 2)).from W8.heap.size)))
     gi_wp2_with fail
     exact ⟨KE.out, rfl, HNO.out, A6.out, A7.out, QE.out⟩
    ·have hnI : ¬ (n : Int) = 1000 := by omega
     have KX := hid (HBX.out.later Q23.out)
     have kx0 := KX.out.cell 0 _ rfl
     have kx1 := KX.out.cell 1 _ rfl
     have kx2 := KX.out.cell 2 _ rfl
     have kx3 := KX.out.cell 3 _ rfl
     obtain ⟨W9, hW9⟩ : ∃ W9, W2.alloc (.cells #[.int .u64 (lim v 0), .int .u64 (lim v 1), .int .u64 (lim v 2), .int .u64 (lim v 3)] 28) = W9 := ⟨_, rfl⟩
     rw [hW9] at k8 kx0 kx1 kx2 kx3 KX Q23 LVH S1 S2 S7 S8 y0 y1 y2 y3 g0 g1 g2 g3
     have NS := Has.new W9 63 #[.int .u64 (lim p.key 0), .int .u64 (lim p.key 1), .int .u64 (lim p.key 2), .int .u64 (lim p.key 3), .int .u64 (lim v 0), .int .u64 (lim v 1), .int .u64 (lim v 2), .int .u64 (lim v 3)]
     have q9 := newA W9 (.cells #[.int .u64 (lim p.key 0), .int .u64 (lim p.key 1), .int .u64 (lim p.key 2), .int .u64 (lim p.key 3), .int .u64 (lim v 0), .int .u64 (lim v 1), .int .u64 (lim v 2), .int .u64 (lim v 3)] 63)
     obtain ⟨i, hi, hz, hsize, hby⟩ := infoS_of
     have hrow9 := S2.out.later q9
     obtain ⟨v', w', hr, hown, hgr, hnb⟩ := run_append_src (P := Tryz.prog) (W9.alloc (.cells #[.int .u64 (lim p.key 0), .int .u64 (lim p.key 1), .int .u64 (lim p.key 2), .int .u64 (lim p.key 3), .int .u64 (lim v 0), .int .u64 (lim v 1), .int .u64 (lim v 2), .int .u64 (lim v 3)] 63)) W.heap.size 29 29 29 63 i _ 8 64 Tryz.underlying29 hi hz hsize hby rfl (by decide) (.slice sa' n sc) n (flat8 (listF wt ((bothL la lb).take k))) (by have := hrow9; unfold RowT at this; rw [HEN.out.2] at this; exact this) (.slice (some ⟨W9.heap.size, 0, none⟩) 1 1) 1 (by decide) (slC (p.key, v)) (by
      rw [hsize]
      refine Src.ofSlice _ Tryz.underlying29 ⟨W9.heap.size, 0, none⟩ 1 1 _ rfl (fun j u hj => ?_) (by simp [slC, Value.oneCell'])
      have ha : (⟨W9.heap.size, 0, none⟩ : Addr).add j = ⟨W9.heap.size, j, none⟩ := by unfold Addr.add; split <;> simp_all
      rw [ha]
      exact NS.cell j u (by simpa [slC] using hj)) (by omega) (by unfold maxLen; omega) (by have := S.out.2.2.2.1.size; have := Q23.out.size; have := q9.size; omega)
     have hrow' : RowT w' W.heap.size v' (listF wt ((bothL la lb).take (k + 1))) := by
      unfold RowT
      rw [HEN.out.1, flat8_snoc, List.length_append, HEN.out.2]
      exact hown
     obtain ⟨ga, gc, rfl⟩ : ∃ ga gc, v' = .slice ga (n + 1) gc := by
      obtain ⟨ga, gc, e⟩ := hrow'.shape
      rw [HEN.out.1, List.length_append, HEN.out.2] at e
      exact ⟨ga, gc, e⟩
     have U8 := ((S1.out.later q9).rowT hrow9 (by decide) hgr)
     have U5 := (((S.out.2.2.1.1.later Q23.out).later q9).rowT hrow9 (by decide) hgr)
     have U6 := ((S7.out.later q9).rowT hrow9 (by decide) hgr)
     have U7 := ((S8.out.later q9).rowT hrow9 (by decide) hgr)
     have t8 := U8.cell 0 _ rfl
     have t9 := U8.frozen 0
     have hTT := hT.out
     have hs44 := hs4.out
     have hs33 := Hs3.out
     have hq99 := q9.size
     have h23 := Q23.out.size
     have hb91 := S.out.2.2.2.1.size
     have hs8 := S.out.2.2.2.2
     have hl8 := hlt8.out
     have HB : Below W.heap.size (W9.alloc (.cells #[.int .u64 (lim p.key 0), .int .u64 (lim p.key 1), .int .u64 (lim p.key 2), .int .u64 (lim p.key 3), .int .u64 (lim v 0), .int .u64 (lim v 1), .int .u64 (lim v 2), .int .u64 (lim v 3)] 63)) w' := ⟨hgr.os, hgr.tape, hgr.output, hgr.size, fun k hk => hgr.block k (by omega) (fun e => by have := (hrow9.block e.symm).1; omega)⟩
     have QY := hid (((((Q23.out.mono hb91).trans (q9.mono (by omega))).trans HB)).setCell (p := ⟨W4.heap.size, 0, none⟩) (by show W.heap.size ≤ W4.heap.size; omega) (.slice ga (n + 1) gc))
     have KT := hid (show Kt W.heap.size [C1, C2, B1, B2] W1 (w'.setCell ⟨W4.heap.size, 0, none⟩ (.slice ga (n + 1) gc)) from ⟨QY.out, fun b hb hl => by
      have hbb : b ≠ W4.heap.size := by simp at hb; omega
      exact (Below.heap_setCell w' ⟨W4.heap.size, 0, none⟩ (.slice ga (n + 1) gc) b hbb).trans ((hgr.block b (by omega) (fun e => S.out.1.2.2 b hb (by rw [HEN.out.2]; exact e.symm))).trans ((q9.block b (by omega)).trans (Q23.out.block b hl)))⟩)
     have KF := hid (((keeps_below (m := 0) (n := W8.heap.size) Q23.out).trans (keeps_below (m := 0) (n := W8.heap.size) q9)).trans ((show KeepsFrom W8.heap.size (W9.alloc (.cells #[.int .u64 (lim p.key 0), .int .u64 (lim p.key 1), .int .u64 (lim p.key 2), .int .u64 (lim p.key 3), .int .u64 (lim v 0), .int .u64 (lim v 1), .int .u64 (lim v 2), .int .u64 (lim v 3)] 63)) w' from ⟨hgr.size, fun k o _ ho hc => (hgr.block k (Array.getElem?_eq_some_iff.1 ho).1 (fun e => by
      obtain ⟨_, cs', h'⟩ := hrow9.block e.symm
      rw [ho] at h'
      cases h'
      cases hc)).trans ho⟩).trans ((KeepsOthers.setCell w' ⟨W4.heap.size, 0, none⟩ (.slice ga (n + 1) gc)).from W8.heap.size)))
     have SN := hid (show LisSt W wt la lb f W.heap.size (W.heap.size + 1) (W.heap.size + 1 + 1) W4.heap.size W8.heap.size [C1, C2, B1, B2] (k + 1) (w'.setCell ⟨W4.heap.size, 0, none⟩ (.slice ga (n + 1) gc)) from ⟨_, ⟨U8.set 0 _, hrow'.keep (fun b cs hb ho => (Below.heap_setCell w' ⟨W4.heap.size, 0, none⟩ (.slice ga (n + 1) gc) b (fun e => by
       have e' : b = W4.heap.size := e
       rw [e', show w'.heap[W4.heap.size]? = _ from U8] at ho
       injection ho with ho
       injection ho with _ ho _
       exact absurd ho (by decide))).trans ho), fun b hb e => by
       rcases hnb with h | h
       ·exact S.out.1.2.2 b hb (by rw [HEN.out.2]; exact h.symm.trans e)
       ·rw [h] at e
        injection e with e
        simp at hb
        omega⟩, ⟨by rw [HEN.out.1, List.length_append, HEN.out.2]; simp; omega, fun x hx => by
       rw [HEN.out.1] at hx
       rcases List.mem_append.1 hx with hx | hx
       ·exact S.out.2.1.2 x hx
       ·simp at hx; subst hx; exact ⟨HWP.out.1, HN.out.1⟩⟩, ⟨U5.other (by show W.heap.size ≠ W4.heap.size; omega) _, U6.other (by show W.heap.size + 1 ≠ W4.heap.size; omega) _, U7.other (by show W.heap.size + 1 + 1 ≠ W4.heap.size; omega) _⟩, S.out.2.2.2.1.trans QY.out, by have := hgr.size; simp [World.setCell]; omega⟩)
     replace NS := hid NS
     replace q9 := hid q9
     replace hrow9 := hid hrow9
     replace hrow' := hid hrow'
     clear hown hgr hnb U5 U6 U7 U8 hTT hs44 hs33 hq99 h23 hb91 hs8 hl8 HB hsize hby hz hi KX
     gi_wp2_with (gi_at_builtin; refine wpListIn_append_run rfl (.tmp 38) (.tmp 42) 29 rfl _ _ _ rfl rfl hr ?_)
     exact ⟨KF.out, KT.out, SN.out⟩
  case done =>
   rintro D W1 hD hst hK
   obtain ⟨sv, ⟨s1, s2, s3⟩, ⟨s4, s5⟩, ⟨s6, s7, s8⟩, s9, s10⟩ := hst
   have eT : listF wt ((bothL la lb).take (bothL la lb).length) = listF wt (bothL la lb) := by rw [List.take_length]
   rw [eT] at s2 s4
   obtain ⟨ga, gc, rfl⟩ := s2.shape
   have c8 := s1.cell 0 _ rfl
   have c6 := s7.cell 0 _ rfl
   have f6 := s7.frozen 0
   have c7 := s8.cell 0 _ rfl
   have f7 := s8.frozen 0
   have hb1 := s9.size
   have hTT := hT.out
   have hss := Hs3.out
   have hs44 := hs4.out
   have A6 := (s7.set 0 (.slice ga (listF wt (bothL la lb)).length gc)).other (p := ⟨W.heap.size + 1 + 1, 0, none⟩) (by simp) (.int .i64 0)
   have A7 := (s8.other (p := ⟨W.heap.size + 1, 0, none⟩) (by simp) (.slice ga (listF wt (bothL la lb)).length gc)).set 0 (.int .i64 0)
   have QE := (s9.setCell (p := ⟨W.heap.size + 1, 0, none⟩) (by simp) (.slice ga (listF wt (bothL la lb)).length gc)).setCell (p := ⟨W.heap.size + 1 + 1, 0, none⟩) (by simp; omega) (.int .i64 0)
   have RE := (s2.keep (X := W1.setCell ⟨W.heap.size + 1, 0, none⟩ (.slice ga (listF wt (bothL la lb)).length gc)) (fun b cs hb ho => (Below.heap_setCell W1 ⟨W.heap.size + 1, 0, none⟩ (.slice ga (listF wt (bothL la lb)).length gc) b (fun e => by
    have e' : b = W.heap.size + 1 := e
    rw [e', show W1.heap[W.heap.size + 1]? = _ from s7] at ho
    injection ho with ho
    injection ho with _ ho _
    exact absurd ho (by decide))).trans ho)).keep (X := (W1.setCell ⟨W.heap.size + 1, 0, none⟩ (.slice ga (listF wt (bothL la lb)).length gc)).setCell ⟨W.heap.size + 1 + 1, 0, none⟩ (.int .i64 0)) (fun b cs hb ho => (Below.heap_setCell _ ⟨W.heap.size + 1 + 1, 0, none⟩ (.int .i64 0) b (fun e => by
    have e' : b = W.heap.size + 1 + 1 := e
    rw [e', show (W1.setCell ⟨W.heap.size + 1, 0, none⟩ (.slice ga (listF wt (bothL la lb)).length gc)).heap[W.heap.size + 1 + 1]? = _ from s8.other (p := ⟨W.heap.size + 1, 0, none⟩) (by simp) _] at ho
    injection ho with ho
    injection ho with _ ho _
    exact absurd ho (by decide))).trans ho)
   obtain ⟨WF, hWF⟩ : ∃ WF, (W1.setCell ⟨W.heap.size + 1, 0, none⟩ (.slice ga (listF wt (bothL la lb)).length gc)).setCell ⟨W.heap.size + 1 + 1, 0, none⟩ (.int .i64 0) = WF := ⟨_, rfl⟩
   have hq8s := Q8.out.size
   have hl8 := hlt8.out
   have h35 := hq8.out.size
   have hKF : WF.heap[D]? = some (.deferred (some [])) := by
    rw [← hWF]
    exact (Below.heap_setCell _ ⟨W.heap.size + 1 + 1, 0, none⟩ (.int .i64 0) D (by show D ≠ W.heap.size + 1 + 1; omega)).trans ((Below.heap_setCell _ ⟨W.heap.size + 1, 0, none⟩ (.slice ga (listF wt (bothL la lb)).length gc) D (by show D ≠ W.heap.size + 1; omega)).trans hK)
   rw [hWF] at A6 A7 QE RE
   have gD := grownBy_putObj' WF D (.deferred none)
   have eD : ∀ r, some D = some r → ∃ o : Obj, WF.heap[r]? = some o ∧ o.isCells = false := fun r e => by injection e with e; subst e; exact ⟨_, hKF, rfl⟩
   have B6 := hid (A6.own' gD eD)
   have B7 := hid (A7.own' gD eD)
   have KP := hid (show ListedP W wt la lb (.returned (.tuple #[.slice ga (listF wt (bothL la lb)).length gc, .int .i64 0])) (WF.putObj D (.deferred none)) from ⟨.inl ⟨s4, _, rfl, RE.own' gD eD⟩, below_own QE gD (Nat.le_refl _) (fun r e => by injection e with e; subst e; omega)⟩)
   replace hKF := hid hKF
   replace hWF := hid hWF
   replace hK := hid hK
   clear s1 s2 s3 s4 s5 s6 s7 s8 s9 s10 A6 A7 QE RE gD eD hb1 hTT hss hs44 HSEQ HST0 HA HB HW HL hq8s hl8 h35
   gi_wp2_with fail
   rw [hWF.out]
   have b6 := B6.out.cell 0 _ rfl
   have b7 := B7.out.cell 0 _ rfl
   refine ⟨by simp, .inl ⟨_, _, rfl, run_takeDeferred hKF.out, ?_⟩⟩
   exact ⟨_, by simp [results, Tryz.results146, go_sem, b6, b7], KP.out⟩
  case stop =>
   rintro D c k W1 hD hk ⟨rfl, s1, s2, s3, s4⟩ hK
   have gD := grownBy_putObj' W1 D (.deferred none)
   have eD : ∀ r, some D = some r → ∃ o : Obj, W1.heap[r]? = some o ∧ o.isCells = false := fun r e => by injection e with e; subst e; exact ⟨_, hK, rfl⟩
   have B6 := hid (s2.own' gD eD)
   have B7 := hid (s3.own' gD eD)
   have hq8s := Q8.out.size
   have KP := hid (show ListedP W wt la lb (.returned (.tuple #[.slice none 0 0, .int .i64 2])) (W1.putObj D (.deferred none)) from ⟨.inr ⟨s1, rfl⟩, below_own s4 gD (Nat.le_refl _) (fun r e => by injection e with e; subst e; omega)⟩)
   replace hK := hid hK
   clear s1 s2 s3 s4 gD eD HSEQ HST0 HA HB HW HL
   gi_wp2_with fail
   have b6 := B6.out.cell 0 _ rfl
   have b7 := B7.out.cell 0 _ rfl
   refine ⟨by simp, .inl ⟨_, _, rfl, run_takeDeferred hK.out, ?_⟩⟩
   exact ⟨_, by simp [results, Tryz.results146, go_sem, b6, b7], KP.out⟩
 ·obtain ⟨cs, hcs, hmk0⟩ := run_mkS 1000 (by omega) W3
  have hmk : (Instr.makeSlice 29 (.int .i64 0) (.int .i64 1000)).run Tryz.prog W3 = .ok (.slice (some ⟨W3.heap.size, 0, none⟩) 0 1000) (W3.alloc (.cells cs 63)) := hmk0
  have NG := Has.new W3 63 cs
  have q4 := newA W3 (.cells cs 63)
  obtain ⟨W4, hW4⟩ : ∃ W4, W3.alloc (.cells cs 63) = W4 := ⟨_, rfl⟩
  rw [hW4] at NG q4 hmk
  have hs4 : W4.heap.size = W3.heap.size + 1 := by rw [← hW4]; simp
  have N8 := Has.new W4 29 #[.slice none 0 0]
  have L8 := Has.new W4 29 #[.slice (some ⟨W3.heap.size, 0, none⟩) 0 1000]
  have x0 := N8.cell 0 _ rfl
  have f0 := N8.frozen 0
  have y0 := L8.cell 0 _ rfl
  have g0 := L8.frozen 0
  have q5 := newA W4 (.cells #[.slice (some ⟨W3.heap.size, 0, none⟩) 0 1000] 29)
  have q35 := q4.trans (q5.mono q4.size)
  have hrow := hid (show RowT (W4.alloc (.cells #[.slice (some ⟨W3.heap.size, 0, none⟩) 0 1000] 29)) W.heap.size (.slice (some ⟨W3.heap.size, 0, none⟩) 0 1000) [] from ⟨rfl, .inr ⟨W3.heap.size, 1000, cs, rfl, by have := Hs3.out; omega, NG.later q5, Nat.zero_le _, by unfold maxLen; omega, hcs, rfl⟩⟩)
  replace hcs := hid hcs
  replace NG := hid NG
  replace q4 := hid q4
  replace q5 := hid q5
  replace q35 := hid q35
  replace N8 := hid N8
  replace L8 := hid L8
  replace hs4 := hid hs4
  replace hW4 := hid hW4
  clear hmk0
  gi_wp2_with fail
  clear x0 f0 y0 g0 hmk N8
  obtain ⟨W5, hW5⟩ : ∃ W5, W4.alloc (.cells #[.slice (some ⟨W3.heap.size, 0, none⟩) 0 1000] 29) = W5 := ⟨_, rfl⟩
  rw [hW5] at hrow L8 q35 ⊢
  have Q5 := hid (Hq3.out.trans (q35.out.mono Hq3.out.size))
  have G5 := hid (H30.out.later q35.out)
  have G6 := hid (H31.out.later q35.out)
  have G7 := hid (H32.out.later q35.out)
  clear hW5 q4 q5 q35 hcs NG hW4
  refine (callsIn_free free_wide (slots_any W5 _ la (HA.out.later Q5.out))).mono ?_
  rintro _ W6 ⟨B1, rfl, hB1, hH1, q6⟩
  have hE1 := hid (And.intro hB1 hH1)
  have Hq6 := hid q6
  clear hB1 hH1 q6
  gi_wp2_with fail
  refine (callsIn_free free_wide (slots_any W6 _ lb (HB.out.later (Q5.out.trans (Hq6.out.mono Q5.out.size))))).mono ?_
  rintro _ W7 ⟨B2, rfl, hB2, hH2, q7⟩
  have hE2 := hid (And.intro hB2 hH2)
  have Hq7 := hid q7
  clear hB2 hH2 q7
  gi_wp2_with fail
  refine (callsIn_free free_wide (both_any W7 la.length lb.length B1 B2)).mono ?_
  rintro _ W8 ⟨C1, C2, rfl, hC1, hC2, hK1, hK2, q8⟩
  have q58 := Hq6.out.trans ((Hq7.out.trans (q8.mono Hq7.out.size)).mono Hq6.out.size)
  have q68 := Hq7.out.trans (q8.mono Hq7.out.size)
  have hT := hid (show W.heap.size < W5.heap.size ∧ W.heap.size + 1 < W5.heap.size ∧ W.heap.size + 1 + 1 < W5.heap.size ∧ W4.heap.size < W5.heap.size ∧ W5.heap.size ≤ B1 ∧ W5.heap.size ≤ B2 ∧ W5.heap.size ≤ C1 ∧ W5.heap.size ≤ C2 from ⟨G5.out.lt, G6.out.lt, G7.out.lt, L8.out.lt, hE1.out.1, Nat.le_trans Hq6.out.size hE2.out.1, Nat.le_trans (Nat.le_trans Hq6.out.size Hq7.out.size) hC1, Nat.le_trans (Nat.le_trans Hq6.out.size Hq7.out.size) hC2⟩)
  have hB18 := hE1.out.2.later q68
  have hB28 := hE2.out.2.later q8
  have hlt8 := hid (show B1 < W8.heap.size ∧ B2 < W8.heap.size ∧ C1 < W8.heap.size ∧ C2 < W8.heap.size from ⟨hB18.lt, hB28.lt, hK1.lt, hK2.lt⟩)
  have Q8 := hid (Q5.out.trans (q58.mono Q5.out.size))
  have hq8 := hid q58
  have HSEQ := hid (both_seq 7 la lb (.slice a la.length ca) (.slice b lb.length cb) B1 B2 C1 C2 W W8 HA.out HB.out Q8.out hK1 hK2 hB18 hB28 (by have := HL.out; omega) (by have := HL.out; omega))
  have HST0 := hid (show LisSt W wt la lb f W.heap.size (W.heap.size + 1) (W.heap.size + 1 + 1) W4.heap.size W8.heap.size [C1, C2, B1, B2] 0 W8 from ⟨_, ⟨L8.out.later q58, by simpa [listF] using hrow.out.later q58, fun b hb e => by
   have e1 : W3.heap.size = b := by injection e
   have := hT.out
   have := hs4.out
   simp at hb
   omega⟩, ⟨by simp [listF], fun x hx => by simp [listF] at hx⟩, ⟨G5.out.later q58, G6.out.later q58, G7.out.later q58⟩, Q8.out, Nat.le_refl _⟩)
  clear q58 q68 hB18 hB28 hC1 hC2 hK1 hK2 q8 hE1 hE2 Hq6 Hq7 hrow G5 G6 G7 L8
  gi_wp2_with fail
  refine wpIn_rangeFunc_C rfl (by omega) (gf := 164) (lb := #[.pointer (some ⟨C1, 0, none⟩), .pointer (some ⟨C2, 0, none⟩)]) rfl trivial (enters_of Tryz.func164 (by kernel_rfl) rfl)
   HSEQ.out Gr.keeps Kt.trans (fun W' l o o' hl h1 h2 _ => ⟨⟨rfl, rfl, rfl, by simp, fun k hk => World.putObj_heap_other (by have := Q8.out.size; omega)⟩, fun b hb _ => World.putObj_heap_other (by have := hlt8.out; simp at hb; omega)⟩) (fun k args W' _ hE => by obtain ⟨p, _, e⟩ := hE; rw [e]; rfl)
   (fun k W' => LisSt W wt la lb f W.heap.size (W.heap.size + 1) (W.heap.size + 1 + 1) W4.heap.size W8.heap.size [C1, C2, B1, B2] k W') (fun c k W' => LisNo W wt la lb (W.heap.size + 1) (W.heap.size + 1 + 1) c k W') (LisSt.own Q8.out.size) (fun c => LisNo.own Q8.out.size c)
   (fun s A X hs hb => hs.later hb) (fun c s A X hs hb => hs.later hb) HST0.out
   (fun k a' V => ∃ p bx bp, (bothL la lb)[k]? = some p ∧ Has V bx 28 #[.int .u64 (lim p.key 0), .int .u64 (lim p.key 1), .int .u64 (lim p.key 2), .int .u64 (lim p.key 3)] ∧ Has V bp 191 #[.int .u64 (lim p.fst 0), .int .u64 (lim p.fst 1), .int .u64 (lim p.fst 2), .int .u64 (lim p.fst 3), .int .u64 (lim p.snd 0), .int .u64 (lim p.snd 1), .int .u64 (lim p.snd 2), .int .u64 (lim p.snd 3), .bool p.ins] ∧ a' = { tmps := #[.slice a la.length ca, .slice b lb.length cb, .func (.func f) #[] #[], undef, undef, .pointer (some ⟨W.heap.size, 0, none⟩), .pointer (some ⟨W.heap.size + 1, 0, none⟩), .pointer (some ⟨W.heap.size + 1 + 1, 0, none⟩), .pointer (some ⟨W4.heap.size, 0, none⟩), .pointer (some ⟨bx, 0, none⟩), .pointer (some ⟨bp, 0, none⟩), undef, undef, .slice a la.length ca, .int .i64 ((la.length : Nat) : Int), .slice b lb.length cb, .int .i64 ((lb.length : Nat) : Int), .int .i64 (m : Int), .int .i64 1000, .slice (some ⟨W3.heap.size, 0, none⟩) 0 1000, .slice a la.length ca, .agg #[.int .i64 ((la.length : Nat) : Int), .func (.func 154) #[] #[.pointer (some ⟨B1, 0, none⟩)], .func (.func 155) #[] #[.pointer (some ⟨B1, 0, none⟩)], .func (.func 156) #[] #[]], .slice b lb.length cb, .agg #[.int .i64 ((lb.length : Nat) : Int), .func (.func 154) #[] #[.pointer (some ⟨B2, 0, none⟩)], .func (.func 155) #[] #[.pointer (some ⟨B2, 0, none⟩)], .func (.func 156) #[] #[]], .func (.func 164) #[] #[.pointer (some ⟨C1, 0, none⟩), .pointer (some ⟨C2, 0, none⟩)], .agg #[.int .u64 (lim p.key 0), .int .u64 (lim p.key 1), .int .u64 (lim p.key 2), .int .u64 (lim p.key 3)], .agg #[.int .u64 (lim p.fst 0), .int .u64 (lim p.fst 1), .int .u64 (lim p.fst 2), .int .u64 (lim p.fst 3), .int .u64 (lim p.snd 0), .int .u64 (lim p.snd 1), .int .u64 (lim p.snd 2), .int .u64 (lim p.snd 3), .bool p.ins], undef, undef, undef, undef, undef, undef, undef, undef, undef, undef, undef, undef, undef, undef, undef, undef, undef, undef], defers := [] })
   (fun k a' _ X Y row hs hg hr => by
    obtain ⟨p, bx, bp, h1, h2, h3, e⟩ := hs
    exact ⟨p, bx, bp, h1, h2.own' hg (fun r e => (hr r e).2), h3.own' hg (fun r e => (hr r e).2), e⟩) ?assign ?body ?done ?stop
  case assign =>
   intro ll k args W1 K hll hkN hst hE hK
   obtain ⟨p, hp, rfl⟩ := hE
   unfold wv prV
   have HST := hid hst
   have HK := hid hK
   have HP := hid hp
   clear hst hkN hK hp
   have N1 := Has.new W1 28 #[.int .u64 0, .int .u64 0, .int .u64 0, .int .u64 0]
   have M1 := Has.new W1 28 #[.int .u64 (lim p.key 0), .int .u64 (lim p.key 1), .int .u64 (lim p.key 2), .int .u64 (lim p.key 3)]
   have N2 := Has.new (W1.alloc (.cells #[.int .u64 (lim p.key 0), .int .u64 (lim p.key 1), .int .u64 (lim p.key 2), .int .u64 (lim p.key 3)] 28)) 191 #[.int .u64 0, .int .u64 0, .int .u64 0, .int .u64 0, .int .u64 0, .int .u64 0, .int .u64 0, .int .u64 0, .bool false]
   have M2 := Has.new (W1.alloc (.cells #[.int .u64 (lim p.key 0), .int .u64 (lim p.key 1), .int .u64 (lim p.key 2), .int .u64 (lim p.key 3)] 28)) 191 #[.int .u64 (lim p.fst 0), .int .u64 (lim p.fst 1), .int .u64 (lim p.fst 2), .int .u64 (lim p.fst 3), .int .u64 (lim p.snd 0), .int .u64 (lim p.snd 1), .int .u64 (lim p.snd 2), .int .u64 (lim p.snd 3), .bool p.ins]
   simp only [World.size_alloc] at N2 M2
   have x0 := N1.cell 0 _ rfl
   have f0 := N1.frozen 0
   have y0 := M1.cell 0 _ rfl
   have g0 := M1.frozen 0
   have x1 := N1.cell 1 _ rfl
   have f1 := N1.frozen 1
   have y1 := M1.cell 1 _ rfl
   have g1 := M1.frozen 1
   have x2 := N1.cell 2 _ rfl
   have f2 := N1.frozen 2
   have y2 := M1.cell 2 _ rfl
   have g2 := M1.frozen 2
   have x3 := N1.cell 3 _ rfl
   have f3 := N1.frozen 3
   have y3 := M1.cell 3 _ rfl
   have g3 := M1.frozen 3
   have u0 := N2.cell 0 _ rfl
   have v0 := N2.frozen 0
   have w0 := M2.cell 0 _ rfl
   have z0 := M2.frozen 0
   have u1 := N2.cell 1 _ rfl
   have v1 := N2.frozen 1
   have w1 := M2.cell 1 _ rfl
   have z1 := M2.frozen 1
   have u2 := N2.cell 2 _ rfl
   have v2 := N2.frozen 2
   have w2 := M2.cell 2 _ rfl
   have z2 := M2.frozen 2
   have u3 := N2.cell 3 _ rfl
   have v3 := N2.frozen 3
   have w3 := M2.cell 3 _ rfl
   have z3 := M2.frozen 3
   have u4 := N2.cell 4 _ rfl
   have v4 := N2.frozen 4
   have w4 := M2.cell 4 _ rfl
   have z4 := M2.frozen 4
   have u5 := N2.cell 5 _ rfl
   have v5 := N2.frozen 5
   have w5 := M2.cell 5 _ rfl
   have z5 := M2.frozen 5
   have u6 := N2.cell 6 _ rfl
   have v6 := N2.frozen 6
   have w6 := M2.cell 6 _ rfl
   have z6 := M2.frozen 6
   have u7 := N2.cell 7 _ rfl
   have v7 := N2.frozen 7
   have w7 := M2.cell 7 _ rfl
   have z7 := M2.frozen 7
   have u8 := N2.cell 8 _ rfl
   have v8 := N2.frozen 8
   have w8 := M2.cell 8 _ rfl
   have z8 := M2.frozen 8
   have M1' := hid (M1.alloc (.cells #[.int .u64 (lim p.fst 0), .int .u64 (lim p.fst 1), .int .u64 (lim p.fst 2), .int .u64 (lim p.fst 3), .int .u64 (lim p.snd 0), .int .u64 (lim p.snd 1), .int .u64 (lim p.snd 2), .int .u64 (lim p.snd 3), .bool p.ins] 191))
   have hg := hid ((newA W1 (.cells #[.int .u64 (lim p.key 0), .int .u64 (lim p.key 1), .int .u64 (lim p.key 2), .int .u64 (lim p.key 3)] 28)).alloc (by simp) (.cells #[.int .u64 (lim p.fst 0), .int .u64 (lim p.fst 1), .int .u64 (lim p.fst 2), .int .u64 (lim p.fst 3), .int .u64 (lim p.snd 0), .int .u64 (lim p.snd 1), .int .u64 (lim p.snd 2), .int .u64 (lim p.snd 3), .bool p.ins] 191))
   replace N1 := hid N1
   replace M1 := hid M1
   replace N2 := hid N2
   replace M2 := hid M2
   gi_wp2_with fail
   exact HK.out _ _ (keeps_below (m := 0) hg.out) (Kt.grow hg.out (HST.out.base)) (HST.out.later hg.out) ⟨p, W1.heap.size, W1.heap.size + 1, HP.out, M1'.out, M2.out, rfl⟩
  case body =>
   rintro ll k a' W1 hll hlo hkN hst ⟨p, bx, bp, hp, hbx, hbp, rfl⟩
   obtain ⟨sv, ⟨s1, s2, s3⟩, ⟨s4, s5⟩, ⟨s6, s7, s8⟩, s9, s10⟩ := hst
   have hwp := bothL_wide la lb HA.out.wideAll HB.out.wideAll p (List.mem_of_getElem? hp)
   obtain ⟨sa', sc, rfl⟩ := s2.shape
   have c5 := s6.cell 0 _ rfl
   have z0 := hbp.cell 0 _ rfl
   have z1 := hbp.cell 1 _ rfl
   have z2 := hbp.cell 2 _ rfl
   have z3 := hbp.cell 3 _ rfl
   have z4 := hbp.cell 4 _ rfl
   have z5 := hbp.cell 5 _ rfl
   have z6 := hbp.cell 6 _ rfl
   have z7 := hbp.cell 7 _ rfl
   have z8 := hbp.cell 8 _ rfl
   have HC := hid (HW.out W1 p hwp.2.1 hwp.2.2)
   have HP := hid hp
   have HWP := hid hwp
   have S := hid (show (Has W1 W4.heap.size 29 #[.slice sa' (listF wt ((bothL la lb).take k)).length sc] ∧ RowT W1 W.heap.size (.slice sa' (listF wt ((bothL la lb).take k)).length sc) (listF wt ((bothL la lb).take k)) ∧ ∀ b ∈ [C1, C2, B1, B2], Value.ownBlock (.slice sa' (listF wt ((bothL la lb).take k)).length sc) ≠ some b) ∧ ((listF wt ((bothL la lb).take k)).length ≤ 1000 ∧ ∀ x ∈ listF wt ((bothL la lb).take k), W256 x.1 ∧ W256 x.2) ∧ (Has W1 W.heap.size 178 #[.func (.func f) #[] #[]] ∧ Has W1 (W.heap.size + 1) 29 #[.slice none 0 0] ∧ Has W1 (W.heap.size + 1 + 1) 46 #[.int .i64 0]) ∧ Below W.heap.size W W1 ∧ W8.heap.size ≤ W1.heap.size from ⟨⟨s1, s2, s3⟩, ⟨s4, s5⟩, ⟨s6, s7, s8⟩, s9, s10⟩)
   have HBX := hid hbx
   clear s1 s2 s3 s4 s5 s6 s7 s8 s9 s10 hp hwp hbp hbx hlo HST0 HSEQ
   gi_wp2_with fail
   clear z0 z1 z2 z3 z4 z5 z6 z7 z8 c5
   refine (callsIn_free (free_round ll) HC.out).mono ?_
   rintro _ W2 ⟨v, b, rfl, hwv, hwt, q2⟩
   unfold wv
   have NV := Has.new W2 28 #[.int .u64 0, .int .u64 0, .int .u64 0, .int .u64 0]
   have LV := Has.new W2 28 #[.int .u64 (lim v 0), .int .u64 (lim v 1), .int .u64 (lim v 2), .int .u64 (lim v 3)]
   have q3 := newA W2 (.cells #[.int .u64 (lim v 0), .int .u64 (lim v 1), .int .u64 (lim v 2), .int .u64 (lim v 3)] 28)
   have q23 := q2.trans (q3.mono q2.size)
   have x0 := NV.cell 0 _ rfl
   have f0 := NV.frozen 0
   have y0 := LV.cell 0 _ rfl
   have g0 := LV.frozen 0
   have x1 := NV.cell 1 _ rfl
   have f1 := NV.frozen 1
   have y1 := LV.cell 1 _ rfl
   have g1 := LV.frozen 1
   have x2 := NV.cell 2 _ rfl
   have f2 := NV.frozen 2
   have y2 := LV.cell 2 _ rfl
   have g2 := LV.frozen 2
   have x3 := NV.cell 3 _ rfl
   have f3 := NV.frozen 3
   have y3 := LV.cell 3 _ rfl
   have g3 := LV.frozen 3
   have HN := hid (And.intro hwv hwt)
   have Q23 := hid q23
   have LVH := hid LV
   have S1 := hid (S.out.1.1.later q23)
   have S2 := hid (S.out.1.2.1.later q23)
   have S7 := hid (S.out.2.2.1.2.1.later q23)
   have S8 := hid (S.out.2.2.1.2.2.later q23)
   have k8 := S1.out.cell 0 _ rfl
   replace NV := hid NV
   replace LV := hid LV
   clear q2 q3 q23 hwv hwt HC
   cases b
   ·have HE := hid (show LisSt W wt la lb f W.heap.size (W.heap.size + 1) (W.heap.size + 1 + 1) W4.heap.size W8.heap.size [C1, C2, B1, B2] (k + 1) (W2.alloc (.cells #[.int .u64 (lim v 0), .int .u64 (lim v 1), .int .u64 (lim v 2), .int .u64 (lim v 3)] 28)) from by
     have h0 : LisSt W wt la lb f W.heap.size (W.heap.size + 1) (W.heap.size + 1 + 1) W4.heap.size W8.heap.size [C1, C2, B1, B2] k W1 := ⟨_, S.out⟩
     have h1 := h0.later Q23.out
     have e : listF wt ((bothL la lb).take (k + 1)) = listF wt ((bothL la lb).take k) := by
      rw [listF_take wt _ k p HP.out, HN.out.2]
      simp
     unfold LisSt at h1 ⊢
     rw [e]
     exact h1)
    gi_wp2_with fail
    exact ⟨keeps_below (m := 0) Q23.out, Kt.grow Q23.out S.out.2.2.2.1.size, HE.out⟩
   ·have e : listF wt ((bothL la lb).take (k + 1)) = listF wt ((bothL la lb).take k) ++ [(p.key, v)] := by
     rw [listF_take wt _ k p HP.out, HN.out.2]
     simp
    have hlen := S.out.2.1.1
    obtain ⟨n, hn⟩ : ∃ n, (listF wt ((bothL la lb).take k)).length = n := ⟨_, rfl⟩
    have HEN := hid (And.intro e hn)
    clear e
    rw [hn] at k8 hlen S1 S2
    by_cases h1000 : n = 1000
    ·have hnI : (n : Int) = 1000 := by omega
     have HNO := hid (show ¬ (listF wt (bothL la lb)).length ≤ 1000 from fun h => by
      have h1 := listF_part wt (bothL la lb) (k + 1)
      rw [HEN.out.1, List.length_append, HEN.out.2] at h1
      simp at h1
      omega)
     have k6 := S7.out.cell 0 _ rfl
     have f6 := S7.out.frozen 0
     have k7 := S8.out.cell 0 _ rfl
     have f7 := S8.out.frozen 0
     have A6 := hid ((S7.out.set 0 (.slice none 0 0)).other (p := ⟨W.heap.size + 1 + 1, 0, none⟩) (by simp) (.int .i64 2))
     have A7 := hid ((S8.out.other (p := ⟨W.heap.size + 1, 0, none⟩) (by simp) (.slice none 0 0)).set 0 (.int .i64 2))
     have QE := hid (((S.out.2.2.2.1.trans (Q23.out.mono S.out.2.2.2.1.size)).setCell (p := ⟨W.heap.size + 1, 0, none⟩) (by simp) (.slice none 0 0)).setCell (p := ⟨W.heap.size + 1 + 1, 0, none⟩) (by simp; omega) (.int .i64 2))
     have KE := hid ((keeps_below (m := 0) (n := W8.heap.size) Q23.out).trans (((KeepsOthers.setCell (W2.alloc (.cells #[.int .u64 (lim v 0), .int .u64 (lim v 1), .int .u64 (lim v 2), .int .u64 (lim v 3)] 28)) ⟨W.heap.size + 1, 0, none⟩ (.slice none 0 0)).from W8.heap.size).trans ((KeepsOthers.setCell ((W2.alloc (.cells #[.int .u64 (lim v 0), .int .u64 (lim v 1), .int .u64 (lim v 2), .int .u64 (lim v 3)] 28)).setCell ⟨W.heap.size + 1, 0, none⟩ (.slice none 0 0)) ⟨W.heap.size + 1 + 1, 0, none⟩ (.int .i64 2)).from W8.heap.size)))
     gi_wp2_with fail
     exact ⟨KE.out, rfl, HNO.out, A6.out, A7.out, QE.out⟩
    ·have hnI : ¬ (n : Int) = 1000 := by omega
     have KX := hid (HBX.out.later Q23.out)
     have kx0 := KX.out.cell 0 _ rfl
     have kx1 := KX.out.cell 1 _ rfl
     have kx2 := KX.out.cell 2 _ rfl
     have kx3 := KX.out.cell 3 _ rfl
     obtain ⟨W9, hW9⟩ : ∃ W9, W2.alloc (.cells #[.int .u64 (lim v 0), .int .u64 (lim v 1), .int .u64 (lim v 2), .int .u64 (lim v 3)] 28) = W9 := ⟨_, rfl⟩
     rw [hW9] at k8 kx0 kx1 kx2 kx3 KX Q23 LVH S1 S2 S7 S8 y0 y1 y2 y3 g0 g1 g2 g3
     have NS := Has.new W9 63 #[.int .u64 (lim p.key 0), .int .u64 (lim p.key 1), .int .u64 (lim p.key 2), .int .u64 (lim p.key 3), .int .u64 (lim v 0), .int .u64 (lim v 1), .int .u64 (lim v 2), .int .u64 (lim v 3)]
     have q9 := newA W9 (.cells #[.int .u64 (lim p.key 0), .int .u64 (lim p.key 1), .int .u64 (lim p.key 2), .int .u64 (lim p.key 3), .int .u64 (lim v 0), .int .u64 (lim v 1), .int .u64 (lim v 2), .int .u64 (lim v 3)] 63)
     obtain ⟨i, hi, hz, hsize, hby⟩ := infoS_of
     have hrow9 := S2.out.later q9
     obtain ⟨v', w', hr, hown, hgr, hnb⟩ := run_append_src (P := Tryz.prog) (W9.alloc (.cells #[.int .u64 (lim p.key 0), .int .u64 (lim p.key 1), .int .u64 (lim p.key 2), .int .u64 (lim p.key 3), .int .u64 (lim v 0), .int .u64 (lim v 1), .int .u64 (lim v 2), .int .u64 (lim v 3)] 63)) W.heap.size 29 29 29 63 i _ 8 64 Tryz.underlying29 hi hz hsize hby rfl (by decide) (.slice sa' n sc) n (flat8 (listF wt ((bothL la lb).take k))) (by have := hrow9; unfold RowT at this; rw [HEN.out.2] at this; exact this) (.slice (some ⟨W9.heap.size, 0, none⟩) 1 1) 1 (by decide) (slC (p.key, v)) (by
      rw [hsize]
      refine Src.ofSlice _ Tryz.underlying29 ⟨W9.heap.size, 0, none⟩ 1 1 _ rfl (fun j u hj => ?_) (by simp [slC, Value.oneCell'])
      have ha : (⟨W9.heap.size, 0, none⟩ : Addr).add j = ⟨W9.heap.size, j, none⟩ := by unfold Addr.add; split <;> simp_all
      rw [ha]
      exact NS.cell j u (by simpa [slC] using hj)) (by omega) (by unfold maxLen; omega) (by have := S.out.2.2.2.1.size; have := Q23.out.size; have := q9.size; omega)
     have hrow' : RowT w' W.heap.size v' (listF wt ((bothL la lb).take (k + 1))) := by
      unfold RowT
      rw [HEN.out.1, flat8_snoc, List.length_append, HEN.out.2]
      exact hown
     obtain ⟨ga, gc, rfl⟩ : ∃ ga gc, v' = .slice ga (n + 1) gc := by
      obtain ⟨ga, gc, e⟩ := hrow'.shape
      rw [HEN.out.1, List.length_append, HEN.out.2] at e
      exact ⟨ga, gc, e⟩
     have U8 := ((S1.out.later q9).rowT hrow9 (by decide) hgr)
     have U5 := (((S.out.2.2.1.1.later Q23.out).later q9).rowT hrow9 (by decide) hgr)
     have U6 := ((S7.out.later q9).rowT hrow9 (by decide) hgr)
     have U7 := ((S8.out.later q9).rowT hrow9 (by decide) hgr)
     have t8 := U8.cell 0 _ rfl
     have t9 := U8.frozen 0
     have hTT := hT.out
     have hs44 := hs4.out
     have hs33 := Hs3.out
     have hq99 := q9.size
     have h23 := Q23.out.size
     have hb91 := S.out.2.2.2.1.size
     have hs8 := S.out.2.2.2.2
     have hl8 := hlt8.out
     have HB : Below W.heap.size (W9.alloc (.cells #[.int .u64 (lim p.key 0), .int .u64 (lim p.key 1), .int .u64 (lim p.key 2), .int .u64 (lim p.key 3), .int .u64 (lim v 0), .int .u64 (lim v 1), .int .u64 (lim v 2), .int .u64 (lim v 3)] 63)) w' := ⟨hgr.os, hgr.tape, hgr.output, hgr.size, fun k hk => hgr.block k (by omega) (fun e => by have := (hrow9.block e.symm).1; omega)⟩
     have QY := hid (((((Q23.out.mono hb91).trans (q9.mono (by omega))).trans HB)).setCell (p := ⟨W4.heap.size, 0, none⟩) (by show W.heap.size ≤ W4.heap.size; omega) (.slice ga (n + 1) gc))
     have KT := hid (show Kt W.heap.size [C1, C2, B1, B2] W1 (w'.setCell ⟨W4.heap.size, 0, none⟩ (.slice ga (n + 1) gc)) from ⟨QY.out, fun b hb hl => by
      have hbb : b ≠ W4.heap.size := by simp at hb; omega
      exact (Below.heap_setCell w' ⟨W4.heap.size, 0, none⟩ (.slice ga (n + 1) gc) b hbb).trans ((hgr.block b (by omega) (fun e => S.out.1.2.2 b hb (by rw [HEN.out.2]; exact e.symm))).trans ((q9.block b (by omega)).trans (Q23.out.block b hl)))⟩)
     have KF := hid (((keeps_below (m := 0) (n := W8.heap.size) Q23.out).trans (keeps_below (m := 0) (n := W8.heap.size) q9)).trans ((show KeepsFrom W8.heap.size (W9.alloc (.cells #[.int .u64 (lim p.key 0), .int .u64 (lim p.key 1), .int .u64 (lim p.key 2), .int .u64 (lim p.key 3), .int .u64 (lim v 0), .int .u64 (lim v 1), .int .u64 (lim v 2), .int .u64 (lim v 3)] 63)) w' from ⟨hgr.size, fun k o _ ho hc => (hgr.block k (Array.getElem?_eq_some_iff.1 ho).1 (fun e => by
      obtain ⟨_, cs', h'⟩ := hrow9.block e.symm
      rw [ho] at h'
      cases h'
      cases hc)).trans ho⟩).trans ((KeepsOthers.setCell w' ⟨W4.heap.size, 0, none⟩ (.slice ga (n + 1) gc)).from W8.heap.size)))
     have SN := hid (show LisSt W wt la lb f W.heap.size (W.heap.size + 1) (W.heap.size + 1 + 1) W4.heap.size W8.heap.size [C1, C2, B1, B2] (k + 1) (w'.setCell ⟨W4.heap.size, 0, none⟩ (.slice ga (n + 1) gc)) from ⟨_, ⟨U8.set 0 _, hrow'.keep (fun b cs hb ho => (Below.heap_setCell w' ⟨W4.heap.size, 0, none⟩ (.slice ga (n + 1) gc) b (fun e => by
       have e' : b = W4.heap.size := e
       rw [e', show w'.heap[W4.heap.size]? = _ from U8] at ho
       injection ho with ho
       injection ho with _ ho _
       exact absurd ho (by decide))).trans ho), fun b hb e => by
       rcases hnb with h | h
       ·exact S.out.1.2.2 b hb (by rw [HEN.out.2]; exact h.symm.trans e)
       ·rw [h] at e
        injection e with e
        simp at hb
        omega⟩, ⟨by rw [HEN.out.1, List.length_append, HEN.out.2]; simp; omega, fun x hx => by
       rw [HEN.out.1] at hx
       rcases List.mem_append.1 hx with hx | hx
       ·exact S.out.2.1.2 x hx
       ·simp at hx; subst hx; exact ⟨HWP.out.1, HN.out.1⟩⟩, ⟨U5.other (by show W.heap.size ≠ W4.heap.size; omega) _, U6.other (by show W.heap.size + 1 ≠ W4.heap.size; omega) _, U7.other (by show W.heap.size + 1 + 1 ≠ W4.heap.size; omega) _⟩, S.out.2.2.2.1.trans QY.out, by have := hgr.size; simp [World.setCell]; omega⟩)
     replace NS := hid NS
     replace q9 := hid q9
     replace hrow9 := hid hrow9
     replace hrow' := hid hrow'
     clear hown hgr hnb U5 U6 U7 U8 hTT hs44 hs33 hq99 h23 hb91 hs8 hl8 HB hsize hby hz hi KX
     gi_wp2_with (gi_at_builtin; refine wpListIn_append_run rfl (.tmp 38) (.tmp 42) 29 rfl _ _ _ rfl rfl hr ?_)
     exact ⟨KF.out, KT.out, SN.out⟩
  case done =>
   rintro D W1 hD hst hK
   obtain ⟨sv, ⟨s1, s2, s3⟩, ⟨s4, s5⟩, ⟨s6, s7, s8⟩, s9, s10⟩ := hst
   have eT : listF wt ((bothL la lb).take (bothL la lb).length) = listF wt (bothL la lb) := by rw [List.take_length]
   rw [eT] at s2 s4
   obtain ⟨ga, gc, rfl⟩ := s2.shape
   have c8 := s1.cell 0 _ rfl
   have c6 := s7.cell 0 _ rfl
   have f6 := s7.frozen 0
   have c7 := s8.cell 0 _ rfl
   have f7 := s8.frozen 0
   have hb1 := s9.size
   have hTT := hT.out
   have hss := Hs3.out
   have hs44 := hs4.out
   have A6 := (s7.set 0 (.slice ga (listF wt (bothL la lb)).length gc)).other (p := ⟨W.heap.size + 1 + 1, 0, none⟩) (by simp) (.int .i64 0)
   have A7 := (s8.other (p := ⟨W.heap.size + 1, 0, none⟩) (by simp) (.slice ga (listF wt (bothL la lb)).length gc)).set 0 (.int .i64 0)
   have QE := (s9.setCell (p := ⟨W.heap.size + 1, 0, none⟩) (by simp) (.slice ga (listF wt (bothL la lb)).length gc)).setCell (p := ⟨W.heap.size + 1 + 1, 0, none⟩) (by simp; omega) (.int .i64 0)
   have RE := (s2.keep (X := W1.setCell ⟨W.heap.size + 1, 0, none⟩ (.slice ga (listF wt (bothL la lb)).length gc)) (fun b cs hb ho => (Below.heap_setCell W1 ⟨W.heap.size + 1, 0, none⟩ (.slice ga (listF wt (bothL la lb)).length gc) b (fun e => by
    have e' : b = W.heap.size + 1 := e
    rw [e', show W1.heap[W.heap.size + 1]? = _ from s7] at ho
    injection ho with ho
    injection ho with _ ho _
    exact absurd ho (by decide))).trans ho)).keep (X := (W1.setCell ⟨W.heap.size + 1, 0, none⟩ (.slice ga (listF wt (bothL la lb)).length gc)).setCell ⟨W.heap.size + 1 + 1, 0, none⟩ (.int .i64 0)) (fun b cs hb ho => (Below.heap_setCell _ ⟨W.heap.size + 1 + 1, 0, none⟩ (.int .i64 0) b (fun e => by
    have e' : b = W.heap.size + 1 + 1 := e
    rw [e', show (W1.setCell ⟨W.heap.size + 1, 0, none⟩ (.slice ga (listF wt (bothL la lb)).length gc)).heap[W.heap.size + 1 + 1]? = _ from s8.other (p := ⟨W.heap.size + 1, 0, none⟩) (by simp) _] at ho
    injection ho with ho
    injection ho with _ ho _
    exact absurd ho (by decide))).trans ho)
   obtain ⟨WF, hWF⟩ : ∃ WF, (W1.setCell ⟨W.heap.size + 1, 0, none⟩ (.slice ga (listF wt (bothL la lb)).length gc)).setCell ⟨W.heap.size + 1 + 1, 0, none⟩ (.int .i64 0) = WF := ⟨_, rfl⟩
   have hq8s := Q8.out.size
   have hl8 := hlt8.out
   have h35 := hq8.out.size
   have hKF : WF.heap[D]? = some (.deferred (some [])) := by
    rw [← hWF]
    exact (Below.heap_setCell _ ⟨W.heap.size + 1 + 1, 0, none⟩ (.int .i64 0) D (by show D ≠ W.heap.size + 1 + 1; omega)).trans ((Below.heap_setCell _ ⟨W.heap.size + 1, 0, none⟩ (.slice ga (listF wt (bothL la lb)).length gc) D (by show D ≠ W.heap.size + 1; omega)).trans hK)
   rw [hWF] at A6 A7 QE RE
   have gD := grownBy_putObj' WF D (.deferred none)
   have eD : ∀ r, some D = some r → ∃ o : Obj, WF.heap[r]? = some o ∧ o.isCells = false := fun r e => by injection e with e; subst e; exact ⟨_, hKF, rfl⟩
   have B6 := hid (A6.own' gD eD)
   have B7 := hid (A7.own' gD eD)
   have KP := hid (show ListedP W wt la lb (.returned (.tuple #[.slice ga (listF wt (bothL la lb)).length gc, .int .i64 0])) (WF.putObj D (.deferred none)) from ⟨.inl ⟨s4, _, rfl, RE.own' gD eD⟩, below_own QE gD (Nat.le_refl _) (fun r e => by injection e with e; subst e; omega)⟩)
   replace hKF := hid hKF
   replace hWF := hid hWF
   replace hK := hid hK
   clear s1 s2 s3 s4 s5 s6 s7 s8 s9 s10 A6 A7 QE RE gD eD hb1 hTT hss hs44 HSEQ HST0 HA HB HW HL hq8s hl8 h35
   gi_wp2_with fail
   rw [hWF.out]
   have b6 := B6.out.cell 0 _ rfl
   have b7 := B7.out.cell 0 _ rfl
   refine ⟨by simp, .inl ⟨_, _, rfl, run_takeDeferred hKF.out, ?_⟩⟩
   exact ⟨_, by simp [results, Tryz.results146, go_sem, b6, b7], KP.out⟩
  case stop =>
   rintro D c k W1 hD hk ⟨rfl, s1, s2, s3, s4⟩ hK
   have gD := grownBy_putObj' W1 D (.deferred none)
   have eD : ∀ r, some D = some r → ∃ o : Obj, W1.heap[r]? = some o ∧ o.isCells = false := fun r e => by injection e with e; subst e; exact ⟨_, hK, rfl⟩
   have B6 := hid (s2.own' gD eD)
   have B7 := hid (s3.own' gD eD)
   have hq8s := Q8.out.size
   have KP := hid (show ListedP W wt la lb (.returned (.tuple #[.slice none 0 0, .int .i64 2])) (W1.putObj D (.deferred none)) from ⟨.inr ⟨s1, rfl⟩, below_own s4 gD (Nat.le_refl _) (fun r e => by injection e with e; subst e; omega)⟩)
   replace hK := hid hK
   clear s1 s2 s3 s4 gD eD HSEQ HST0 HA HB HW HL
   gi_wp2_with fail
   have b6 := B6.out.cell 0 _ rfl
   have b7 := B7.out.cell 0 _ rfl
   refine ⟨by simp, .inl ⟨_, _, rfl, run_takeDeferred hK.out, ?_⟩⟩
   exact ⟨_, by simp [results, Tryz.results146, go_sem, b6, b7], KP.out⟩
end Go.Proofs.YtkicmbdjihjgfaaGreatDoor

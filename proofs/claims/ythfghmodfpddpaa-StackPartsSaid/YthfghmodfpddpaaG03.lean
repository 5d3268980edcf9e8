/- Part. -/
import Derived.Test.YthfghmodfpddpaaG02
import Derived.Deep.AppendSrc
import Derived.Laws.AppendOwn
import Derived.Test.YthfghmodfpddpaaG01
import Derived.Lib.BytesEntry
import Derived.Lib.Bytealg
import Derived.Laws.StructEq
import Derived.Laws.Cover2
import Derived.WalkKit
import Derived.Deep.Quiet
import Derived.BigQuiet
import Derived.Deep.MidRow
import Derived.Deep.WholeRow
import Derived.Lib.SliceRun
import Derived.Lib.AppendZerosOnto
import Derived.Deep.Upon
set_option maxRecDepth 100000
set_option maxHeartbeats 16000000
namespace Go.Proofs.Ythfghmodfpddpaa
section
open Go Go.RowKit Go.Shelf
attribute [local go_sem] Oper.semAt_some Grows wide_fn
theorem refOf_ret (n : Int) (h : I64 n) : Ret Try.prog 19 #[.int .i64 n] (wv (ofN n)) := by
 intro w
 have hI := h
 unfold I64 at h
 by_cases hn : n < 0
 ·rw [wv_of (of_neg n hI hn)]
  have hw : IntKind.u64.wrap n = 18446744073709551616 + n := by rw [IntKind.wrap_u64]; omega
  have h1 : -9223372036854775808 ≤ n := h.1
  obtain ⟨x, hx⟩ : ∃ x, x = 18446744073709551616 + n := ⟨_, rfl⟩
  rw [← hx] at hw ⊢
  have hx0 : 0 ≤ x := by omega
  have hx1 : x < 18446744073709551616 := by omega
  clear h hI hx
  go_enter Try.func19, Try.ntmps19
  go_wp2
  have A1 := (Arr4.mk0' w 25).alloc (.cells #[.int .u64 x, .int .u64 0, .int .u64 0, .int .u64 0] 25)
  have A2 := Arr4.new (w.alloc (.cells #[.int .u64 0, .int .u64 0, .int .u64 0, .int .u64 0] 25)) 25 x 0 0 0
  have B0 := ((Below.refl _ w).alloc (Nat.le_refl _) (.cells #[.int .u64 0, .int .u64 0, .int .u64 0, .int .u64 0] 25)).alloc (by simp) (.cells #[.int .u64 x, .int .u64 0, .int .u64 0, .int .u64 0] 25)
  rw [World.size_alloc] at A2
  obtain ⟨W0, hW0⟩ : ∃ W0, (w.alloc (.cells #[.int .u64 0, .int .u64 0, .int .u64 0, .int .u64 0] 25)).alloc (.cells #[.int .u64 x, .int .u64 0, .int .u64 0, .int .u64 0] 25) = W0 := ⟨_, rfl⟩
  rw [hW0] at A1 A2 B0 ⊢
  clear hW0
  go_loopw [4] (fun i wr => ∃ k : Nat, 1 ≤ k ∧ k ≤ 4 ∧ i = .int .i64 (k : Int) ∧ Arr4 wr w.heap.size 25 (fun _ => 0) ∧ Arr4 wr (w.heap.size + 1) 25 (fun j => if j = 0 then x else if j < k then 18446744073709551615 else 0) ∧ Below w.heap.size w wr) (fun i _ => 4 - (intOf i).toNat)
  case atStart => exact ⟨1, by omega, by omega, rfl, A1, A2.same4 rfl rfl rfl rfl, B0⟩
  case round =>
   obtain ⟨k, hk1, hk, rfl, a1, a2, hB⟩ := hrel
   clear A1 A2 B0
   by_cases hlt : k < 4
   ·have hkI : (k : Int) < 4 := by omega
    have hk0 : (0 : Int) ≤ (k : Int) := by omega
    have fp := a2.frozen k
    have cp := a2.cell hlt
    have N1 := Lib.hid (a1.other (p := ⟨w.heap.size + 1, k, none⟩) (by simp) (.int .u64 18446744073709551615))
    have N2 := Lib.hid (a2.set hlt 18446744073709551615)
    have N3 := Lib.hid (hB.setCell (p := ⟨w.heap.size + 1, k, none⟩) (by simp) (.int .u64 18446744073709551615))
    have HK := Lib.hid (And.intro hk1 hlt)
    clear hk1 hk hlt a1 a2 hB
    go_wp2
    go_roundw
    case rel =>
     have hk := HK.out
     refine ⟨k + 1, by omega, by omega, by simp, N1.out, ?_, N3.out⟩
     have e : (fun j => if j = 0 then x else if j < k + 1 then (18446744073709551615 : Int) else 0) = (fun j => if j = k then 18446744073709551615 else if j = 0 then x else if j < k then 18446744073709551615 else 0) := by
      funext j
      by_cases e1 : j = k
      ·rw [if_pos e1, if_neg (by omega), if_pos (by omega)]
      ·rw [if_neg e1]
       by_cases e2 : j = 0
       ·rw [if_pos e2, if_pos e2]
       ·rw [if_neg e2, if_neg e2]
        by_cases e3 : j < k
        ·rw [if_pos e3, if_pos (by omega)]
        ·rw [if_neg e3, if_neg (by omega)]
     rw [e]
     exact N2.out
    case measure => have := HK.out; simp [intOf]; omega
   ·obtain rfl : k = 4 := by omega
    have c0 : wr.cell? ⟨w.heap.size + 1, 0, none⟩ = some (.int .u64 x) := a2.cell (j := 0) (by omega)
    have c1 : wr.cell? ⟨w.heap.size + 1, 1, none⟩ = some (.int .u64 18446744073709551615) := a2.cell (j := 1) (by omega)
    have c2 : wr.cell? ⟨w.heap.size + 1, 2, none⟩ = some (.int .u64 18446744073709551615) := a2.cell (j := 2) (by omega)
    have c3 : wr.cell? ⟨w.heap.size + 1, 3, none⟩ = some (.int .u64 18446744073709551615) := a2.cell (j := 3) (by omega)
    have f0 := a1.frozen 0
    have f1 := a1.frozen 1
    have f2 := a1.frozen 2
    have f3 := a1.frozen 3
    have d0 := a1.cell (j := 0) (by omega)
    have d1 := a1.cell (j := 1) (by omega)
    have d2 := a1.cell (j := 2) (by omega)
    have d3 := a1.cell (j := 3) (by omega)
    have HA1 := Lib.hid a1
    have HB := Lib.hid hB
    clear hk1 hk hlt a1 a2 hB
    go_wp2
    refine bodyPost_ret (results_word rfl rfl (HA1.out.store (fun j => if j = 0 then x else 18446744073709551615))) rfl ⟨rfl, ?_⟩
    exact (((HB.out.setCell (p := ⟨w.heap.size, 0, none⟩) (by simp) _).setCell (p := ⟨w.heap.size, 1, none⟩) (by simp) _).setCell (p := ⟨w.heap.size, 2, none⟩) (by simp) _).setCell (p := ⟨w.heap.size, 3, none⟩) (by simp) _
 ·rw [wv_of (of_pos n hI hn)]
  have hn0 : 0 ≤ n := by omega
  have hn1 : n ≤ 9223372036854775807 := h.2
  have hw : IntKind.u64.wrap n = n := by rw [IntKind.wrap_u64]; omega
  have hn2 : n < 18446744073709551616 := by omega
  clear h hI
  go_enter Try.func19, Try.ntmps19
  go_wp2
  refine bodyPost_ret (results_word rfl rfl ((Arr4.new w 25 n 0 0 0).alloc (.cells #[.int .u64 n, .int .u64 0, .int .u64 0, .int .u64 0] 25))) rfl ⟨rfl, ?_⟩
  exact ((Below.refl _ w).alloc (Nat.le_refl _) _).alloc (by simp) _
end
section
open Go Go.RowKit
variable {P : Program} (w : World)
def NewBlock (w : World) (v v' : Value) : Prop := v'.ownBlock = v.ownBlock ∨ v'.ownBlock = some w.heap.size
end
section
open Go Go.RowKit
variable {P : Program} (w : World)
theorem run_append_src (base : Nat) (t tx ty e : TypeId) (i : TypeInfo) (z : Value) (size bytes : Nat) (ht : P.underlying t = some (.slice e)) (hi : P.info? e = some i) (hz : i.zero = some z)
  (hsize : i.size = size) (hby : i.bytes = bytes) (hzs : z.cells.size = size) (hs0 : 0 < size) (v : Value) (n : Nat) (xs : List Value) (hown : w.ownsRow base e size v n xs)
  (x : Value) (m : Nat) (hm : 0 < m) (news : List Value) (hsrc : Src P i.size tx x m news w)
  (hb : (n + m) * bytes ≤ 140737488355328) (h63 : n + m ≤ maxLen) (hbase : base ≤ w.heap.size) :
  ∃ v' w', (Builtin.append_ #[t, tx] ty #[v, x]).run P w = .ok v' w' ∧ w'.ownsRow base e size v' (n + m) (xs ++ news) ∧ w.grownBy w' v.ownBlock ∧ NewBlock w v v' := by
 have hl : news.length = m * size := by rw [← hsize]; exact hsrc.newsLen
 have hlen : (xs ++ news).length = (n + m) * size := by rw [List.length_append, hown.1, hl, Nat.add_mul]
 have grown : ∀ (old : Nat), old < n + m → ∀ (row : Option Nat),
   (w.drew.alloc (.cells (xs.toArray ++ news.toArray ++ Builtin.zeroCells z.cells (grownCap w (n + m) old e - (n + m))) e)).ownsRow base e size
    (.slice (some ⟨w.heap.size, 0, none⟩) (n + m) (grownCap w (n + m) old e)) (n + m) (xs ++ news) ∧
   w.grownBy (w.drew.alloc (.cells (xs.toArray ++ news.toArray ++ Builtin.zeroCells z.cells (grownCap w (n + m) old e - (n + m))) e)) row := by
  intro old ho row
  have hge := grownCap_ge w (n + m) old e
  have hcm : grownCap w (n + m) old e ≤ maxLen := grownCap_le_maxLen w (n + m) old e h63
  refine ⟨⟨hlen, .inr ⟨w.heap.size, _, _, rfl, hbase, heap_alloc_new w.drew _, hge, hcm, ?_, ?_⟩⟩, ⟨rfl, rfl, rfl, by simp, fun k hk _ => Below.heap_alloc w.drew _ k hk⟩⟩
  ·simp only [Array.size_append, List.size_toArray, size_zeroCells, hzs, hown.1, hl, ← Nat.add_mul]
   congr 1
   omega
  ·simp only [Array.toList_append, List.append_assoc]
   rw [← List.append_assoc, ← hlen]
   exact List.take_left
 rcases hown.2 with ⟨rfl, rfl⟩ | ⟨g, cap, cur, rfl, hbg, hg, hnc, hcm, hcs, htake⟩
 ·have hx : xs = [] := List.eq_nil_of_length_eq_zero (by simpa using hown.1)
  subst hx
  have hr := run_append_grow_src (P := P) w t tx ty e i z ht hi hz none 0 0 [] (by simp [Builtin.firstCells]) x m news hsrc (by omega) (by simp only [maxLen] at h63; omega) (growslice_fits (by omega) (by rw [hby]; exact hb))
  have hgr := grown 0 (by omega) (Value.ownBlock (.slice none 0 0))
  simp only [List.nil_append, Array.empty_append, Nat.zero_add] at hr hgr ⊢
  exact ⟨_, _, hr, hgr.1, hgr.2, .inr rfl⟩
 ·by_cases hroom : n + m ≤ cap
  ·have hfit : n * i.size + news.length ≤ cur.size := by rw [hl, hcs, hsize, ← Nat.add_mul]; exact Nat.mul_le_mul_right _ hroom
   have hst := run_storeCells_at P g (n * i.size) e news 0 cur w hg (by simpa using hfit) hsrc.one
   simp only [Nat.add_zero] at hst
   have hr : (Builtin.append_ #[t, tx] ty #[.slice (some ⟨g, 0, none⟩) n cap, x]).run P w = .ok (.slice (some ⟨g, 0, none⟩) (n + m) cap) (w.setRow g (cur.toList.take (n * i.size) ++ news ++ cur.toList.drop (n * i.size + news.length)).toArray) := by
    rcases hsrc.kind with ⟨e', hk⟩ | hk <;> simp [Builtin.append_, run_underlying ht, run_underlying hk, sizeOf, typeInfo, hi, hsrc.len, hroom, hsrc.cells, Addr.add_lit, hst]
   rw [hsize] at hr
   refine ⟨_, _, hr, ⟨hlen, .inr ⟨g, cap, _, rfl, hbg, setRow_heap w g cur _ e _ hg, hroom, hcm, ?_, ?_⟩⟩, ⟨rfl, rfl, rfl, by simp, fun k _ hk => setRow_other w g k _ (fun e => hk (by simp [Value.ownBlock, e]))⟩, .inl rfl⟩
   ·rw [hsize] at hfit
    simp only [List.size_toArray, List.length_append, List.length_take, List.length_drop, Array.length_toList]
    omega
   ·rw [htake, ← hlen]
    exact List.take_left
  ·have holds : (Builtin.firstCells i.size n (.slice (some ⟨g, 0, none⟩) n cap)).run P w.drew = .ok xs.toArray w.drew := by
    rw [hsize]
    exact run_firstCells_some w.drew size n ⟨g, 0, none⟩ n cap xs hown.1 (fun j u hj => by
     have := hown.cells (g := g) rfl j u hj
     simpa using this)
   have hr := run_append_grow_src (P := P) w t tx ty e i z ht hi hz (some ⟨g, 0, none⟩) n cap xs holds x m news hsrc (by omega) (by simp only [maxLen] at h63; omega) (growslice_fits (by omega) (by rw [hby]; exact hb))
   have hgr := grown cap (by omega) (Value.ownBlock (.slice (some ⟨g, 0, none⟩) n cap))
   have hap : ((xs ++ news).toArray : Array Value) = xs.toArray ++ news.toArray := by simp
   rw [hap] at hr
   exact ⟨_, _, hr, hgr.1, hgr.2, .inr rfl⟩
end
section
open Go Go.RowKit
attribute [local go_sem] Oper.semAt_some Grows wide_fn
theorem wpList_load_known {P : Program} {ops : Array Oper} {rest : List Oper} {o : Oper} {a : Act} {w : World} {Q : Exit → Act → World → Prop} (hw : Region.wanted o (yielded ops a.tmps) = true) (ty : TypeId) (x : Operand) (ho : o.op = .load ty x) (p : Addr) (hx : a.eval x = .pointer (some p)) (v : Value) (hr : (loadVar ty p).run P w = .ok v w)
  (h : wpList P ops Q rest (a.put o.dst v) w) : wpList P ops Q (o :: rest) a w :=
 wpList_step fun _ hK => by
  rw [if_pos hw]
  unfold Oper.wp execOp
  simp only [ho, hx, Instr.loadAt, Instr.sureAddr, Sem.run_bind, Sem.run_pure, Result.andThen_ok, hr]
  exact hK _ _ h
theorem run_loadVar_at {P : Program} (w : World) (a : Addr) (ty : TypeId) (cs : List Value) (d : TypeDesc) (hc : ∀ (j : Nat) (v : Value), cs[j]? = some v → w.cell? (a.add j) = some v)
  (hu : P.underlying ty = some d) (hd : d.isRow = true) (hi : (P.info? ty).map (·.size) = some cs.length) :
  (loadVar ty a).run P w = .ok (.agg cs.toArray) w := by
 have hl : (loadCells a cs.length).run P w = .ok cs.toArray w := run_loadCells_list (P := P) w a cs hc
 cases hq : P.info? ty with
 | none => simp [hq] at hi
 | some i =>
  have hs : i.size = cs.length := by simpa [hq] using hi
  have hagg : (isAgg ty).run P w = .ok true w := by
   unfold isAgg
   rw [Sem.run_bind, run_underlying hu w]
   cases d <;> simp_all
  simp [loadVar, Sem.run_bind, hagg, sizeOf, typeInfo, hq, hs, hl]
theorem wpQuiet_load {P : Program} {ops : Array Oper} {C : World → Prop} {rest : List Oper} {o : Oper} {a : Act} {Q : Act → Prop} (hw : Region.wanted o (yielded ops a.tmps) = true) (ty : TypeId) (x : Operand) (ho : o.op = .load ty x) (p : Addr) (hx : a.eval x = .pointer (some p)) (v : Value) (hr : ∀ w, C w → (loadVar ty p).run P w = .ok v w)
  (h : wpQuiet P ops C Q rest (a.put o.dst v)) : wpQuiet P ops C Q (o :: rest) a :=
 BigFrame.wpQuiet_want hw fun K hK => ⟨v, fun w hc => by
  unfold Oper.quietAt execOp
  simp only [ho, hx, Instr.loadAt, Instr.sureAddr, Sem.run_bind, Sem.run_pure, Result.andThen_ok, hr w hc]
  exact ⟨rfl, rfl⟩, hK _ h⟩
def wdL (x : Nat) : List Value := [.int .u64 (lim x 0), .int .u64 (lim x 1), .int .u64 (lim x 2), .int .u64 (lim x 3)]
theorem wdL_len (x : Nat) : (wdL x).length = 4 := rfl
theorem wdL_one (x : Nat) : ∀ u ∈ wdL x, u.oneCell' = true := by intro u hu; simp [wdL] at hu; rcases hu with rfl | rfl | rfl | rfl <;> rfl
def WdIn (W : World) (p : Addr) (x : Nat) : Prop := ∀ (j : Nat) (u : Value), (wdL x)[j]? = some u → W.cell? (p.add j) = some u
theorem infoWs : (Try.prog.info? 25).map (·.size) = some 4 := by kernel_rfl
theorem WdIn.load {W : World} {p : Addr} {x : Nat} (h : WdIn W p x) : (loadVar 25 p).run Try.prog W = .ok (.agg ((wdL x).toArray)) W :=
 run_loadVar_at W p _ (wdL x) _ h Try.underlying25 rfl (by rw [wdL_len]; exact infoWs)
def WdsAt (W : World) (v : Value) (l : List Nat) : Prop :=
 ∃ a cap, v = .slice a l.length cap ∧ l.length ≤ cap ∧ cap ≤ 9223372036854775807 ∧ (∀ x ∈ l, W256 x) ∧ ∀ (i : Nat) (x : Nat), l[i]? = some x → ∃ b, a = some b ∧ WdIn W (b.add (i * 4)) x
theorem WdsAt.keep {W X : World} {v : Value} {l : List Nat} (h : WdsAt W v l) (hk : ∀ (a : Addr) (u : Value), W.cell? a = some u → X.cell? a = some u) : WdsAt X v l := by
 obtain ⟨a, cap, h1, h2, h3, h4, h5⟩ := h
 refine ⟨a, cap, h1, h2, h3, h4, fun i x hx => ?_⟩
 obtain ⟨b, e, hc⟩ := h5 i x hx
 exact ⟨b, e, fun j u hj => hk _ _ (hc j u hj)⟩
theorem WdsAt.later {W X : World} {v : Value} {l : List Nat} (h : WdsAt W v l) (hb : Below W.heap.size W X) : WdsAt X v l := h.keep (cell_below hb)
theorem WdsAt.nil (W : World) : WdsAt W (.slice none 0 0) [] := ⟨none, 0, rfl, by simp, by omega, (fun x hx => by cases hx), fun i x hx => by simp at hx⟩
theorem WdsAt.shape {W : World} {v : Value} {l : List Nat} (h : WdsAt W v l) : ∃ a cap, v = .slice a l.length cap ∧ l.length ≤ cap ∧ cap ≤ 9223372036854775807 := by
 obtain ⟨a, cap, h1, h2, h3, _⟩ := h
 exact ⟨a, cap, h1, h2, h3⟩
theorem WdsAt.all {W : World} {v : Value} {l : List Nat} (h : WdsAt W v l) : ∀ x ∈ l, W256 x := by
 obtain ⟨a, cap, h1, h2, h3, h4, _⟩ := h
 exact h4
theorem WdsAt.ok {W : World} {v : Value} {l : List Nat} (h : WdsAt W v l) {i : Nat} {x : Nat} (hx : l[i]? = some x) : W256 x := h.all x (List.mem_of_getElem? hx)
theorem WdsAt.at {W : World} {a : Option Addr} {n cap : Nat} {l : List Nat} (h : WdsAt W (.slice a n cap) l) {i : Nat} {x : Nat} (hx : l[i]? = some x) : ∃ b, a = some b ∧ WdIn W (b.add (i * 4)) x := by
 obtain ⟨a', cap', h1, h2, h3, h4, h5⟩ := h
 injection h1 with e1 e2 e3
 subst e1
 exact h5 i x hx
theorem WdsAt.in {W : World} {b : Addr} {n cap : Nat} {l : List Nat} (h : WdsAt W (.slice (some b) n cap) l) {i : Nat} {x : Nat} (hx : l[i]? = some x) : WdIn W (b.add (i * 4)) x := by
 obtain ⟨b', e, h⟩ := h.at hx
 injection e with e
 subst e
 exact h
def flatW (l : List Nat) : List Value := l.flatMap wdL
theorem flatW_length : ∀ (l : List Nat), (flatW l).length = l.length * 4
 | [] => rfl
 | x :: l => by
  have := flatW_length l
  simp only [flatW, List.flatMap_cons, List.length_append, List.length_cons] at this ⊢
  rw [this, wdL_len]
  omega
theorem flatW_at : ∀ (l : List Nat) (i : Nat) (x : Nat) (j : Nat), l[i]? = some x → j < 4 → (flatW l)[i * 4 + j]? = (wdL x)[j]?
 | [], i, x, j, h, _ => by simp at h
 | y :: l, 0, x, j, h, hj => by
  simp at h
  subst h
  rw [show flatW (y :: l) = wdL y ++ flatW l from rfl, List.getElem?_append_left (by rw [wdL_len]; omega), Nat.zero_mul, Nat.zero_add]
 | y :: l, i + 1, x, j, h, hj => by
  rw [show flatW (y :: l) = wdL y ++ flatW l from rfl, List.getElem?_append_right (by rw [wdL_len]; omega), wdL_len, show (i + 1) * 4 + j - 4 = i * 4 + j by omega]
  exact flatW_at l i x j (by simpa using h) hj
def WdRow (W : World) (base : Nat) (v : Value) (l : List Nat) : Prop := W.ownsRow base 25 4 v l.length (flatW l)
theorem WdRow.keys {W : World} {base : Nat} {v : Value} {l : List Nat} (h : WdRow W base v l) (hw : ∀ x ∈ l, W256 x) : WdsAt W v l := by
 rcases h.2 with ⟨rfl, h0⟩ | ⟨g, cap, cur, rfl, hbg, hg', hnc, hcm, hcs, htake⟩
 ·have : l = [] := List.eq_nil_of_length_eq_zero h0
  subst this
  exact WdsAt.nil W
 ·refine ⟨some ⟨g, 0, none⟩, cap, rfl, hnc, by simpa [maxLen] using hcm, hw, fun i x hx => ⟨⟨g, 0, none⟩, rfl, fun j u hj => ?_⟩⟩
  have hj4 : j < 4 := by have := (List.getElem?_eq_some_iff.1 hj).1; rwa [wdL_len] at this
  rw [Addr.add_add]
  exact World.ownsRow.cells h (g := g) rfl _ _ ((flatW_at l i x j hx hj4).trans hj)
theorem WdRow.later {W X : World} {base : Nat} {v : Value} {l : List Nat} (h : WdRow W base v l) (hb : Below W.heap.size W X) : WdRow X base v l := by
 refine ⟨h.1, ?_⟩
 rcases h.2 with h0 | ⟨g, cap, cur, rfl, hbg, hg', hr⟩
 ·exact .inl h0
 ·exact .inr ⟨g, cap, cur, rfl, hbg, (hb.block g (Array.getElem?_eq_some_iff.1 hg').1).trans hg', hr⟩
theorem infoW : (Try.prog.info? 25).map (fun i => (i.zero, i.size, i.bytes)) = some (some (.agg #[.int .u64 0, .int .u64 0, .int .u64 0, .int .u64 0]), 4, 32) := by kernel_rfl
theorem infoW_of : ∃ i, Try.prog.info? 25 = some i ∧ i.zero = some (.agg #[.int .u64 0, .int .u64 0, .int .u64 0, .int .u64 0]) ∧ i.size = 4 ∧ i.bytes = 32 := by
 have h := infoW
 rcases hi : Try.prog.info? 25 with _ | i
 ·rw [hi] at h; cases h
 ·rw [hi] at h
  injection h with h
  simp only [Prod.mk.injEq] at h
  exact ⟨i, rfl, h.1, h.2.1, h.2.2⟩
theorem wpList_append_runW {P : Program} {w w' : World} {ops : Array Oper} {rest : List Oper} {o : Oper} {a : Act} {Q : Exit → Act → World → Prop}
  (hg : o.guard = none) (s x : Operand) (t : TypeId) (hop : o.op = Op.call { callee := Callee.builtin Builtin.append, args := #[s, x], argTypes := #[t, t] })
  (v x0 v' : Value) (hs : a.eval s = v) (hx : a.eval x = x0) (hr : (Builtin.append_ #[t, t] o.type #[v, x0]).run P w = .ok v' w')
  (hK : wpList P ops Q rest (a.put o.dst v') w') : wpList P ops Q (o :: rest) a w := by
 refine wpList_plain hg fun K hK' => ?_
 unfold Oper.wp execOp
 simp only [hop, resolve, invoke, builtin, Sem.run_bind, Sem.run_pure, Result.andThen_ok, List.map_toArray, List.map_cons, List.map_nil, hs, hx, hr]
 exact hK' _ _ hK
theorem copy_madeW (A : World) (sv : Value) (l : List Nat) (h : WdsAt A sv l) (hl : l.length ≤ 100000) :
  ∃ v' w', (Builtin.append_ #[27, 27] 27 #[.slice (some ⟨A.heap.size, 0, none⟩) 0 0, sv]).run Try.prog (A.alloc (.cells #[] 25)) = .ok v' w' ∧ WdRow w' A.heap.size v' l ∧ Below A.heap.size A w' := by
 have hb0 := newA A (.cells #[] 25)
 have h0 := World.ownsRow_made (base := A.heap.size) (e := 25) (size := 4) A #[] 0 (Nat.le_refl _) (Nat.zero_le _) rfl
 replace h := h.later hb0
 obtain ⟨A1, hA1⟩ : ∃ A1, A.alloc (.cells #[] 25) = A1 := ⟨_, rfl⟩
 rw [hA1] at hb0 h0 h ⊢
 obtain ⟨a, cap, rfl, h2, h3, h4, h5⟩ := h
 obtain ⟨i, hi, hz, hsize, hby⟩ := infoW_of
 cases l with
 | nil =>
  refine ⟨_, _, run_append_nothing (P := Try.prog) A1 27 27 27 25 i Try.underlying27 hi (some ⟨A.heap.size, 0, none⟩) 0 0 (Nat.le_refl _) (.slice a 0 cap) ?_, h0, hb0⟩
  cases a with
  | none => exact Src.ofNil _ Try.underlying27 cap
  | some b => exact Src.ofSlice _ Try.underlying27 b 0 cap [] (by simp) (fun j u hj => by simp at hj) (fun u hu => by cases hu)
 | cons x r =>
  obtain ⟨b, rfl, _⟩ := h5 0 x rfl
  obtain ⟨v', w', hr, hown, hgr, hnb⟩ := run_append_src (P := Try.prog) A1 A.heap.size 27 27 27 25 i _ 4 32 Try.underlying27 hi hz hsize hby rfl (by decide) (.slice (some ⟨A.heap.size, 0, none⟩) 0 0) 0 [] h0 (.slice (some b) (x :: r).length cap) (x :: r).length (by simp) (flatW (x :: r)) (by
   rw [hsize]
   refine Src.ofSlice _ Try.underlying27 b _ cap _ (flatW_length _) (fun j u hj => ?_) (fun u hu => ?_)
   ·have hj8 : j < (x :: r).length * 4 := by
     have := (List.getElem?_eq_some_iff.1 hj).1
     rwa [flatW_length] at this
    obtain ⟨y, hy⟩ : ∃ y, (x :: r)[j / 4]? = some y := ⟨_, List.getElem?_eq_getElem (by omega)⟩
    obtain ⟨b', hb', hc⟩ := h5 (j / 4) y hy
    injection hb' with hb'
    subst hb'
    have hf := flatW_at (x :: r) (j / 4) y (j % 4) hy (by omega)
    rw [show j / 4 * 4 + j % 4 = j by omega, hj] at hf
    have h8 := hc (j % 4) u hf.symm
    rw [Addr.add_add, show j / 4 * 4 + j % 4 = j by omega] at h8
    exact h8
   ·obtain ⟨y, _, hy⟩ := List.mem_flatMap.1 hu
    exact wdL_one y u hy) (by omega) (by unfold maxLen; omega) hb0.size
  refine ⟨v', w', hr, ?_, ?_⟩
  ·unfold WdRow
   rw [Nat.zero_add, List.nil_append] at hown
   exact hown
  ·exact hb0.grown hgr hb0.size (by intro k hk; simp [Value.ownBlock] at hk; omega)
theorem clone_words (W : World) (sv : Value) (l : List Nat) (hs : WdsAt W sv l) (hl : l.length ≤ 100000) :
  Calls Try.prog 21 #[sv] W fun e w' => ∃ v', e = .returned v' ∧ WdRow w' W.heap.size v' l ∧ Below W.heap.size W w' := by
 have q22 := fun (w : World) (a : Option Addr) (n c n' c' : Nat) => Lib.run_eql_slice_nil (P := Try.prog) w 27 _ a n c n' c' Try.underlying27
 have HS := hid hs
 obtain ⟨v', w', hr, hrow, hb⟩ := copy_madeW W sv l hs hl
 have HR := hid hrow
 have HB := hid hb
 clear hrow hb hl
 obtain ⟨a, cap, rfl, hnc, hcm⟩ := hs.shape
 cases a with
 | none =>
  have h0 : l = [] := by
   cases l with
   | nil => rfl
   | cons x r =>
    obtain ⟨b, e, _⟩ := hs.at (i := 0) (x := x) rfl
    cases e
  subst h0
  clear hr hs hnc hcm
  go_enter Try.func21, Try.ntmps21
  go_wp2_with fail
  go_ret
  exact ⟨_, rfl, World.ownsRow_nil _ _ _ _, Below.refl _ _⟩
 | some b =>
  obtain ⟨n, hn⟩ : ∃ n, l.length = n := ⟨_, rfl⟩
  rw [hn] at hr ⊢
  clear hs hnc hcm hn
  go_enter Try.func21, Try.ntmps21
  go_wp2_with (at_builtin; refine wpList_append_runW rfl (.tmp 5) (.tmp 6) 27 rfl _ _ _ rfl rfl hr ?_)
  go_ret
  exact ⟨_, rfl, HR.out, HB.out⟩
theorem words_made (w : World) (l : List Nat) (h : ∀ x ∈ l, W256 x) (hl : l.length ≤ 100000) : WdsAt (w.alloc (.cells (flatW l).toArray 25)) (.slice (some ⟨w.heap.size, 0, none⟩) l.length l.length) l := by
 refine ⟨some ⟨w.heap.size, 0, none⟩, l.length, rfl, Nat.le_refl _, by omega, h, fun i x hx => ⟨_, rfl, fun j u hj => ?_⟩⟩
 have hj4 : j < 4 := by have := (List.getElem?_eq_some_iff.1 hj).1; rwa [wdL_len] at this
 rw [Addr.add_add, Addr.add_mid, Nat.zero_add]
 exact (Has.new w 25 (flatW l).toArray).cell _ _ (by simpa using (flatW_at l i x j hx hj4).trans hj)
theorem WdRow.nil (W : World) (base : Nat) : WdRow W base (.slice none 0 0) [] := World.ownsRow_nil _ _ _ _
theorem WdRow.shapeW {W : World} {base : Nat} {v : Value} {l : List Nat} (h : WdRow W base v l) : ∃ a cap, v = .slice a l.length cap := by
 rcases h.2 with ⟨rfl, h0⟩ | ⟨g, cap, cur, rfl, _⟩
 ·exact ⟨none, 0, by rw [h0]⟩
 ·exact ⟨_, _, rfl⟩
theorem WdRow.blockW {W : World} {base : Nat} {v : Value} {l : List Nat} (h : WdRow W base v l) {b : Nat} (hb : v.ownBlock = some b) : base ≤ b ∧ ∃ cs, W.heap[b]? = some (.cells cs 25 (0, 0)) := by
 rcases h.2 with ⟨rfl, h0⟩ | ⟨g, cap, cur, rfl, hbg, hg', _⟩
 ·cases hb
 ·injection hb with hb
  subst hb
  exact ⟨hbg, cur, hg'⟩
theorem flatW_append (a b : List Nat) : flatW (a ++ b) = flatW a ++ flatW b := by simp [flatW]
theorem infoWz_of : ∃ i z, Try.prog.info? 25 = some i ∧ i.zero = some z ∧ z.cells.size = 4 ∧ i.size = 4 ∧ i.bytes = 32 := by
 obtain ⟨i, h1, h2, h3, h4⟩ := infoW_of
 exact ⟨i, _, h1, h2, rfl, h3, h4⟩
theorem append_words (A : World) (base : Nat) (v : Value) (ps : List Nat) (h : WdRow A base v ps) (hb : base ≤ A.heap.size) (sv : Value) (qs : List Nat) (hq : WdsAt A sv qs) (hl : ps.length + qs.length ≤ 100000) :
  ∃ v' w', (Builtin.append_ #[27, 27] 27 #[v, sv]).run Try.prog A = .ok v' w' ∧ WdRow w' base v' (ps ++ qs) ∧ A.grownBy w' v.ownBlock ∧ Below base A w' := by
 obtain ⟨i, z, hi, hz, hzs, hsize, hby⟩ := infoWz_of
 have bel : ∀ w', A.grownBy w' v.ownBlock → Below base A w' := fun w' hgr => ⟨hgr.os, hgr.tape, hgr.output, hgr.size, fun k hk => hgr.block k (by omega) (fun e => by have := (h.blockW e.symm).1; omega)⟩
 obtain ⟨a, cap, rfl, h2, h3, _, h5⟩ := hq
 cases qs with
 | nil =>
  obtain ⟨av, cv, rfl⟩ := h.shapeW
  have hr := run_append_nothing (P := Try.prog) A 27 27 27 25 i Try.underlying27 hi av ps.length cv (by
   rcases h.2 with ⟨e, h0⟩ | ⟨g, cap, cur, e, hbg, hg', hnc, _⟩
   ·injection e with _ _ e; omega
   ·injection e with _ _ e; subst e; exact hnc) (.slice a 0 cap) (by
   cases a with
   | none => exact Src.ofNil _ Try.underlying27 cap
   | some b => exact Src.ofSlice _ Try.underlying27 b 0 cap [] (by simp) (fun j u hj => by simp at hj) (fun u hu => by cases hu))
  refine ⟨_, _, hr, by rw [List.append_nil]; exact h, ⟨rfl, rfl, rfl, Nat.le_refl _, fun _ _ _ => rfl⟩, Below.refl _ _⟩
 | cons q r =>
  obtain ⟨b, rfl, _⟩ := h5 0 q rfl
  obtain ⟨v', w', hr, hown, hgr, hnb⟩ := run_append_src (P := Try.prog) A base 27 27 27 25 i z 4 32 Try.underlying27 hi hz hsize hby hzs (by decide) v ps.length (flatW ps) h (.slice (some b) (q :: r).length cap) (q :: r).length (by simp) (flatW (q :: r)) (by
   rw [hsize]
   refine Src.ofSlice _ Try.underlying27 b _ cap _ (flatW_length _) (fun j u hj => ?_) (fun u hu => ?_)
   ·have hj8 : j < (q :: r).length * 4 := by
     have := (List.getElem?_eq_some_iff.1 hj).1
     rwa [flatW_length] at this
    obtain ⟨y, hy⟩ : ∃ y, (q :: r)[j / 4]? = some y := ⟨_, List.getElem?_eq_getElem (by omega)⟩
    obtain ⟨b', hb', hc⟩ := h5 (j / 4) y hy
    injection hb' with hb'
    subst hb'
    have hf := flatW_at (q :: r) (j / 4) y (j % 4) hy (by omega)
    rw [show j / 4 * 4 + j % 4 = j by omega, hj] at hf
    have h8 := hc (j % 4) u hf.symm
    rwa [Addr.add_add, show j / 4 * 4 + j % 4 = j by omega] at h8
   ·obtain ⟨y, hy, hu'⟩ := List.mem_flatMap.1 hu
    exact wdL_one y u hu') (by omega) (by unfold maxLen; omega) hb
  refine ⟨v', w', hr, ?_, hgr, bel w' hgr⟩
  unfold WdRow
  rw [flatW_append, List.length_append]
  exact hown
theorem grow_words (W : World) (n : Nat) (hn : n ≤ 100000) :
  Calls Try.prog 27 #[.slice none 0 0, .int .i64 (n : Int)] W fun e w' => ∃ v', e = .returned v' ∧ WdRow w' W.heap.size v' [] ∧ Below W.heap.size W w' := by
 have hnI : (n : Int) ≤ 100000 := by omega
 have hn0 : ¬ ((n : Int) < 0) := by omega
 by_cases h0 : n = 0
 ·subst h0
  go_enter Try.func27, Try.ntmps27
  go_wp2_with fail
  go_ret
  exact ⟨_, rfl, WdRow.nil _ _, Below.refl _ _⟩
 ·have h4 : (n : Int) > 0 := by omega
  obtain ⟨i, z, hi, hz, hzs, hsz, hby⟩ := infoWz_of
  have h := Lib.run_append_grow_zeros (P := Try.prog) W 27 3 27 25 i z .i64 .i64 Try.underlying27 Try.underlying3 hi hz none 0 0 [] (run_firstCells_none W.drew i.size 0 0 0) n (by omega) (by omega) (by omega) (by omega) (by rw [hby]; omega) (by rw [Nat.zero_add]; exact growslice_fits (by omega) (by rw [hby]; omega))
  simp only [Nat.zero_add] at h
  have hge : n ≤ grownCap W n 0 25 := grownCap_ge W n 0 _
  have hcm : grownCap W n 0 25 ≤ maxLen := grownCap_le_maxLen W n 0 _ (by unfold maxLen; omega)
  generalize grownCap W n 0 25 = G at *
  obtain ⟨cs, hcs⟩ : ∃ cs : Array Value, #[] ++ Builtin.zeroCells z.cells n ++ Builtin.zeroCells z.cells (G - n) = cs := ⟨_, rfl⟩
  have hcz : cs.size = G * 4 := by
   rw [← hcs]
   simp only [Array.size_append, size_zeroCells, hzs]
   simp
   omega
  rw [show ([] : List Value).toArray = #[] from rfl, hcs] at h
  have hq0 := newA W (.cells cs 25)
  have hrow := hid (show WdRow (W.drew.alloc (.cells cs 25)) W.heap.size (.slice (some ⟨W.heap.size, 0, none⟩) 0 G) [] from World.ownsRow_made (base := W.heap.size) (e := 25) (size := 4) W.drew cs G (Nat.le_refl _) hcm hcz)
  have HB := hid (show Below W.heap.size W (W.drew.alloc (.cells cs 25)) from ⟨rfl, rfl, rfl, by simp, fun k hk => Below.heap_alloc W.drew _ k hk⟩)
  have hG63 : (G : Int) ≤ 9223372036854775807 := by unfold maxLen at hcm; omega
  have hG0 : (0 : Int) ≤ (G : Int) := by omega
  clear hi hz hzs hsz hby hcs hcz hq0 hge hcm h0
  go_enter Try.func27, Try.ntmps27
  go_wp2_with (at_builtin; refine Lib.wpList_append_run _ rfl _ _ _ _ rfl _ _ rfl rfl _ _ h ?_)
  go_ret
  exact ⟨_, rfl, hrow.out, HB.out⟩
def sumW (vs : List (Value × List Nat)) : Nat := (vs.map (·.2.length)).sum
def catW (vs : List (Value × List Nat)) : List Nat := vs.flatMap (·.2)
theorem catW_len : ∀ (vs : List (Value × List Nat)), (catW vs).length = sumW vs
 | [] => rfl
 | x :: l => by
  have := catW_len l
  simp only [catW, sumW, List.flatMap_cons, List.length_append, List.map_cons, List.sum_cons] at this ⊢
  omega
theorem sumW_take (vs : List (Value × List Nat)) (k : Nat) (q : Value × List Nat) (h : vs[k]? = some q) : sumW (vs.take (k + 1)) = sumW (vs.take k) + q.2.length := by
 unfold sumW
 rw [List.take_add_one, h, List.map_append, List.sum_append]
 simp
theorem catW_take (vs : List (Value × List Nat)) (k : Nat) (q : Value × List Nat) (h : vs[k]? = some q) : catW (vs.take (k + 1)) = catW (vs.take k) ++ q.2 := by
 unfold catW
 rw [List.take_add_one, h, List.flatMap_append]
 simp
theorem sumW_le (vs : List (Value × List Nat)) (k : Nat) : sumW (vs.take k) ≤ sumW vs := by
 have e : sumW vs = sumW (vs.take k) + sumW (vs.drop k) := by
  conv => lhs; rw [← List.take_append_drop k vs]
  unfold sumW
  rw [List.map_append, List.sum_append]
 omega
theorem concat_words (W : World) (B : Nat) (vs : List (Value × List Nat)) (hv : ∀ (i : Nat) (q : Value × List Nat), vs[i]? = some q → W.cell? ⟨B, i, none⟩ = some q.1 ∧ WdsAt W q.1 q.2) (hn : vs.length ≤ 1000) (hs : sumW vs ≤ 100000) :
  Calls Try.prog 22 #[.slice (some ⟨B, 0, none⟩) vs.length vs.length] W fun e w' => ∃ v', e = .returned v' ∧ WdRow w' W.heap.size v' (catW vs) ∧ Below W.heap.size W w' := by
 have HV := hid hv
 have HSS := hid hs
 have HTK := hid (sumW_le vs)
 obtain ⟨n, hnn⟩ : ∃ n, vs.length = n := ⟨_, rfl⟩
 rw [hnn] at hn ⊢
 have HN := hid hnn
 have HL := hid hn
 clear hv hs hnn hn
 go_enter Try.func22, Try.ntmps22
 go_wp2_with fail
 go_loopw [11, 3] (fun i s wr => ∃ k : Nat, k ≤ n ∧ i = .int .i64 (k : Int) ∧ s = .int .i64 ((sumW (vs.take k) : Nat) : Int) ∧ wr = W) (fun i _ _ => n - (intOf i).toNat)
 case atStart => exact ⟨0, by omega, rfl, rfl, rfl⟩
 case round =>
  obtain ⟨k, hk, rfl, rfl, hw⟩ := hrel
  obtain rfl : W = wr := hw.symm
  clear hw
  have hlk : (sumW (vs.take k) : Int) ≤ 100000 := by have := HTK.out k; have := HSS.out; omega
  have hs0 : (0 : Int) ≤ ((sumW (vs.take k) : Nat) : Int) := by omega
  by_cases hkn : k < n
  ·have hknI : (k : Int) < (n : Int) := by omega
   have hk0 : (0 : Int) ≤ (k : Int) := by omega
   have hkb : (k : Int) ≤ 1000 := by have := HL.out; omega
   obtain ⟨q, hq⟩ : ∃ q, vs[k]? = some q := ⟨_, List.getElem?_eq_getElem (by have := HN.out; omega)⟩
   obtain ⟨c, hr⟩ := HV.out k q hq
   obtain ⟨a, cap, hqv, hnc, hcm, _, _⟩ := hr
   rw [hqv] at c
   have HT := hid (sumW_take vs k q hq)
   have hl2 : ((sumW (vs.take k) : Nat) : Int) + (q.2.length : Int) ≤ 100000 := by have := HTK.out (k + 1); have := HSS.out; have := HT.out; omega
   have hl0 : ¬ ((sumW (vs.take k) : Nat) : Int) + (q.2.length : Int) < 0 := by omega
   have ha : (⟨B, 0, none⟩ : Addr).add k = ⟨B, k, none⟩ := by unfold Addr.add; split <;> simp_all
   have HK := hid hkn
   clear hkn hq hnc hcm hk
   generalize hsum : sumW (vs.take k) = sm at *
   clear hsum
   go_wp2_with fail
   go_roundw
   case rel => exact ⟨k + 1, by have := HK.out; omega, by simp, by rw [HT.out]; simp, by first | trivial | rfl⟩
   case measure => have := HK.out; simp [intOf]; omega
  ·obtain rfl : k = n := by omega
   have hkk : ¬ (k : Int) < (k : Int) := by omega
   have HE := hid (show vs.take k = vs by rw [← HN.out, List.take_length])
   have hG := hid (grow_words W (sumW (vs.take k)) (by have := HTK.out k; have := HSS.out; omega))
   generalize hsum : sumW (vs.take k) = sm at *
   clear hsum
   go_wp2_with fail
   refine hG.out.mono ?_
   rintro _ w1 ⟨v1, rfl, hrow, q1⟩
   have R1 := hid hrow
   have Q1 := hid q1
   clear hrow q1 hG
   go_wp2_with fail
   go_loopw [27, 6] (fun i v wx => ∃ (m : Nat), m ≤ k ∧ i = .int .i64 (m : Int) ∧ WdRow wx W.heap.size v (catW (vs.take m)) ∧ Below W.heap.size W wx) (fun i _ _ => k - (intOf i).toNat)
   case atStart => exact ⟨0, by omega, rfl, R1.out, Q1.out⟩
   case round =>
    obtain ⟨m, hm, rfl, hrow, hq⟩ := hrel
    have RO := hid hrow
    have HQ := hid hq
    clear hrow hq
    by_cases hmk : m < k
    ·have hmI : (m : Int) < (k : Int) := by omega
     have hm0 : (0 : Int) ≤ (m : Int) := by omega
     have hmb : (m : Int) ≤ 1000 := by have := HL.out; omega
     obtain ⟨q, hq⟩ : ∃ q, vs[m]? = some q := ⟨_, List.getElem?_eq_getElem (by have := HN.out; omega)⟩
     obtain ⟨c, hr⟩ := HV.out m q hq
     have c' := cell_below HQ.out _ _ c
     have ha : (⟨B, 0, none⟩ : Addr).add m = ⟨B, m, none⟩ := by unfold Addr.add; split <;> simp_all
     have HT := hid (catW_take vs m q hq)
     have hlen : (catW (vs.take m)).length + q.2.length ≤ 100000 := by
      have e := congrArg List.length HT.out
      rw [catW_len, List.length_append] at e
      have := HTK.out (m + 1)
      have := HSS.out
      omega
     obtain ⟨v', w', happ, hrow', _, hbel⟩ := append_words _ W.heap.size u6 _ RO.out HQ.out.size q.1 q.2 (hr.later HQ.out) hlen
     have R2 := hid hrow'
     have Q2 := hid (HQ.out.trans hbel)
     have HK := hid hmk
     generalize q.1 = qv at *
     clear hmk hq hr hlen hrow' hbel c hm
     go_wp2_with (at_builtin; refine wpList_append_runW rfl (.tmp 31) (.tmp 32) 27 rfl _ _ _ rfl rfl happ ?_)
     go_roundw
     case rel => exact ⟨m + 1, by have := HK.out; omega, by simp, by rw [HT.out]; exact R2.out, Q2.out⟩
     case measure => have := HK.out; simp [intOf]; omega
    ·obtain rfl : m = k := by omega
     have hmm : ¬ (m : Int) < (m : Int) := by omega
     have RF := hid (show WdRow wr W.heap.size u6 (catW vs) by have := RO.out; rwa [HE.out] at this)
     go_wp2_with fail
     go_ret
     exact ⟨_, rfl, RF.out, HQ.out⟩
def pickN (c m : Int) : Int := (if c < 0 then -(c + 1) else c) % m
theorem pickN_range (c m : Int) (hm : 0 < m) : 0 ≤ pickN c m ∧ pickN c m < m := by
 unfold pickN
 exact ⟨Int.emod_nonneg _ (by omega), Int.emod_lt_of_pos _ hm⟩
theorem ofN_nat (n : Nat) : ofN (n : Int) = n := by unfold ofN; rw [if_neg (by omega)]; omega
theorem pick_ret (c : Int) (hc : I64 c) (m : Int) (hm : 0 < m) (hm2 : m ≤ 4611686018427387903) : Ret Try.prog 12 #[.int .i64 c, .int .i64 m] (.int .i64 (pickN c m)) := by
 refine Ret.of_same fun w => ?_
 unfold I64 at hc
 unfold pickN
 by_cases h : c < 0
 ·rw [if_pos h]
  have h0 : (0 : Int) ≤ -(c + 1) := by omega
  have h1 : -(c + 1) < 9223372036854775808 := by omega
  have q0 := Int.emod_nonneg (-(c + 1)) (show m ≠ 0 by omega)
  have q1 := Int.emod_lt_of_pos (-(c + 1)) hm
  have e := Int.tmod_eq_emod_of_nonneg h0 (b := m)
  go_enter Try.func12, Try.ntmps12
  go_wp2
  go_ret
  exact ⟨rfl, rfl⟩
 ·rw [if_neg h]
  have q0 := Int.emod_nonneg c (show m ≠ 0 by omega)
  have q1 := Int.emod_lt_of_pos c hm
  have e := Int.tmod_eq_emod_of_nonneg (show 0 ≤ c by omega) (b := m)
  go_enter Try.func12, Try.ntmps12
  go_wp2
  go_ret
  exact ⟨rfl, rfl⟩
end
section
open Go Go.RowKit
attribute [local go_sem] Oper.semAt_some Grows wide_fn eq4
theorem room_ret (a : Option Addr) (n cap : Nat) (m : Int) (hn : n ≤ 100000) (hm0 : 0 ≤ m) (hm : m ≤ 100000) : Ret Try.prog 20 #[.slice a n cap, .int .i64 m] (.int .i64 (m - (n : Int))) := by
 refine Ret.of_same fun w => ?_
 have h0 : (0 : Int) ≤ (n : Int) := by omega
 have h1 : (n : Int) ≤ 100000 := by omega
 clear hn
 go_enter Try.func20, Try.ntmps20
 go_wp2
 go_ret
 exact ⟨rfl, rfl⟩
theorem place_ret (a : Option Addr) (n cap : Nat) (m : Int) (hn : n ≤ 100000) (hm0 : 0 ≤ m) (hm : m ≤ 100000) : Ret Try.prog 25 #[.slice a n cap, .int .i64 m] (.int .i64 ((n : Int) - m)) := by
 refine Ret.of_same fun w => ?_
 have h0 : (0 : Int) ≤ (n : Int) := by omega
 have h1 : (n : Int) ≤ 100000 := by omega
 clear hn
 go_enter Try.func25, Try.ntmps25
 go_wp2
 go_ret
 exact ⟨rfl, rfl⟩
def askN (n : Nat) (k least below : Int) : Int := if 1024 < n ∨ k < least then 1 else if (n : Int) - below < k then 40 else 0
theorem asked_ret (a : Option Addr) (n cap : Nat) (k least below : Int) (hn : n ≤ 100000) (hl : 0 ≤ least ∧ least ≤ 1) (hb : 0 ≤ below ∧ below ≤ 1) :
  Ret Try.prog 24 #[.slice a n cap, .int .i64 k, .int .i64 least, .int .i64 below] (.int .i64 (askN n k least below)) := by
 intro w
 have HR := hid (room_ret a n cap 1024 hn (by decide) (by decide))
 obtain ⟨l0, l1⟩ := hl
 obtain ⟨b0, b1⟩ := hb
 have h0 : (0 : Int) ≤ (n : Int) := by omega
 have h1 : (n : Int) ≤ 100000 := by omega
 unfold askN
 by_cases c1 : 1024 < n
 ·rw [if_pos (.inl c1)]
  have c1' : (1024 : Int) - (n : Int) < 0 := by omega
  clear hn c1
  go_enter Try.func24, Try.ntmps24
  go_wp2_with fail
  refine (HR.out _).mono ?_
  rintro e w1 ⟨rfl, q1⟩
  go_wp2
  go_ret
  exact ⟨rfl, q1⟩
 ·have c1' : ¬ (1024 : Int) - (n : Int) < 0 := by omega
  by_cases c2 : k < least
  ·rw [if_pos (.inr c2)]
   clear hn c1
   go_enter Try.func24, Try.ntmps24
   go_wp2_with fail
   refine (HR.out _).mono ?_
   rintro e w1 ⟨rfl, q1⟩
   go_wp2
   go_ret
   exact ⟨rfl, q1⟩
  ·rw [if_neg (by omega)]
   by_cases c3 : (n : Int) - below < k
   ·rw [if_pos c3]
    clear hn c1
    go_enter Try.func24, Try.ntmps24
    go_wp2_with fail
    refine (HR.out _).mono ?_
    rintro e w1 ⟨rfl, q1⟩
    go_wp2
    go_ret
    exact ⟨rfl, q1⟩
   ·rw [if_neg c3]
    clear hn c1
    go_enter Try.func24, Try.ntmps24
    go_wp2_with fail
    refine (HR.out _).mono ?_
    rintro e w1 ⟨rfl, q1⟩
    go_wp2
    go_ret
    exact ⟨rfl, q1⟩
theorem own_words (W : World) (sv : Value) (l : List Nat) (hs : WdsAt W sv l) (hl : l.length ≤ 100000) :
  Calls Try.prog 23 #[sv] W fun e w' => ∃ v', e = .returned v' ∧ WdRow w' W.heap.size v' l ∧ Below W.heap.size W w' := by
 obtain ⟨v', w', happ, hrow, _, hb⟩ := append_words W W.heap.size (.slice none 0 0) [] (WdRow.nil W _) (Nat.le_refl _) sv l hs (by simpa using hl)
 have HR := hid hrow
 have HB := hid hb
 clear hrow hb hl
 obtain ⟨a, cap, rfl, _, _⟩ := hs.shape
 clear hs
 obtain ⟨n, hn⟩ : ∃ n, l.length = n := ⟨_, rfl⟩
 rw [hn] at happ ⊢
 clear hn
 go_enter Try.func23, Try.ntmps23
 go_wp2_with (at_builtin; refine wpList_append_runW rfl (.const (.slice none 0 0)) (.tmp 3) 27 rfl _ _ _ rfl rfl happ ?_)
 go_ret
 exact ⟨_, rfl, HR.out, HB.out⟩
theorem WdIn.four {W : World} {p : Addr} {x : Nat} (h : WdIn W p x) : W.cell? p = some (.int .u64 (lim x 0)) ∧ W.cell? ⟨p.block, p.off + 1, none⟩ = some (.int .u64 (lim x 1)) ∧ W.cell? ⟨p.block, p.off + 2, none⟩ = some (.int .u64 (lim x 2)) ∧ W.cell? ⟨p.block, p.off + 3, none⟩ = some (.int .u64 (lim x 3)) :=
 ⟨by have := h 0 _ rfl; simpa [Addr.add] using this, h 1 _ rfl, h 2 _ rfl, h 3 _ rfl⟩
theorem lim_same (a b : Nat) (ha : W256 a) (hb : W256 b) : (lim a 0 == lim b 0 && lim a 1 == lim b 1 && lim a 2 == lim b 2 && lim a 3 == lim b 3) = decide (a = b) := by
 by_cases h : a = b
 ·subst h; simp
 ·rw [decide_eq_false h]
  refine Bool.eq_false_iff.2 fun e => h ?_
  simp only [Bool.and_eq_true, beq_iff_eq] at e
  exact lim_ext ha hb fun k hk => by
   rcases (show k = 0 ∨ k = 1 ∨ k = 2 ∨ k = 3 by omega) with rfl | rfl | rfl | rfl
   ·exact e.1.1.1
   ·exact e.1.1.2
   ·exact e.1.2
   ·exact e.2
theorem WdsAt.at4 {W : World} {b : Addr} {n cap : Nat} {l : List Nat} (h : WdsAt W (.slice (some b) n cap) l) {i : Nat} {x : Nat} (hx : l[i]? = some x) :
  W.cell? (b.add (i * 4)) = some (.int .u64 (lim x 0)) ∧ W.cell? ⟨(b.add (i * 4)).block, (b.add (i * 4)).off + 1, none⟩ = some (.int .u64 (lim x 1)) ∧ W.cell? ⟨(b.add (i * 4)).block, (b.add (i * 4)).off + 2, none⟩ = some (.int .u64 (lim x 2)) ∧ W.cell? ⟨(b.add (i * 4)).block, (b.add (i * 4)).off + 3, none⟩ = some (.int .u64 (lim x 3)) := (h.in hx).four
theorem sameW_snoc {a b : List Nat} {n : Nat} (ha : a.length = n) (hb : b.length = n) (h : ∀ (j : Nat) (x y : Nat), a[j]? = some x → b[j]? = some y → x = y) : a = b := by
 refine List.ext_getElem? fun j => ?_
 by_cases hj : j < n
 ·rw [List.getElem?_eq_getElem (by omega), List.getElem?_eq_getElem (by omega)]
  exact congrArg some (h j _ _ (List.getElem?_eq_getElem (by omega)) (List.getElem?_eq_getElem (by omega)))
 ·rw [List.getElem?_eq_none (by omega), List.getElem?_eq_none (by omega)]
theorem same_words (W : World) (sa sb : Value) (la lb : List Nat) (ha : WdsAt W sa la) (hb : WdsAt W sb lb) :
  Calls Try.prog 11 #[sa, sb] W fun e w' => e = .returned (.bool (decide (la = lb))) ∧ Below W.heap.size W w' := by
 have hmx : Try.prog.follows .mixedOrders = true := by kernel_rfl
 obtain ⟨a, ca, rfl, ha1, ha2⟩ := ha.shape
 obtain ⟨b, cb, rfl, hb1, hb2⟩ := hb.shape
 have HA := hid ha
 have HB := hid hb
 obtain ⟨m, hm⟩ : ∃ m, la.length = m := ⟨_, rfl⟩
 obtain ⟨n, hn⟩ : ∃ n, lb.length = n := ⟨_, rfl⟩
 rw [hm] at HA ha1 ⊢
 rw [hn] at HB hb1 ⊢
 have HM := hid hm
 have HN := hid hn
 have hlc := hid (Nat.le_trans ha1 ha2)
 clear ha hb hm hn ha1 ha2 hb1 hb2
 by_cases hmn : m = n
 ·subst hmn
  have hres := hid (show ∀ X, Below W.heap.size W X → (∀ (j : Nat) (x y : Nat), la[j]? = some x → lb[j]? = some y → x = y) → (Ending.returned (.bool true) = .returned (.bool (decide (la = lb))) ∧ Below W.heap.size W X) from fun X hX h => ⟨by rw [decide_eq_true (sameW_snoc HM.out HN.out h)], hX⟩)
  have hno := hid (show ∀ X, Below W.heap.size W X → la ≠ lb → (Ending.returned (.bool false) = .returned (.bool (decide (la = lb))) ∧ Below W.heap.size W X) from fun X hX h => ⟨by rw [decide_eq_false h], hX⟩)
  obtain ⟨Post, hPost⟩ : ∃ Post : Ending → World → Prop, (fun (e : Ending) (w' : World) => e = .returned (.bool (decide (la = lb))) ∧ Below W.heap.size W w') = Post := ⟨_, rfl⟩
  replace hres := hid (show ∀ X, Below W.heap.size W X → (∀ (j : Nat) (x y : Nat), la[j]? = some x → lb[j]? = some y → x = y) → Post (.returned (.bool true)) X by rw [← hPost]; exact hres.out)
  replace hno := hid (show ∀ X, Below W.heap.size W X → la ≠ lb → Post (.returned (.bool false)) X by rw [← hPost]; exact hno.out)
  rw [hPost]
  clear hPost
  go_enter Try.func11, Try.ntmps11
  go_wp2_with fail
  go_loopw [5] (fun i wr => ∃ k : Nat, k ≤ m ∧ i = .int .i64 (k : Int) ∧ (∀ (j : Nat) (x y : Nat), j < k → la[j]? = some x → lb[j]? = some y → x = y) ∧ Below W.heap.size W wr) (fun i _ => m - (intOf i).toNat)
  case atStart => exact ⟨0, by omega, rfl, fun j x y h => absurd h (by omega), Below.refl _ _⟩
  case round =>
   obtain ⟨k, hk, rfl, hlt, hq⟩ := hrel
   have HLT := hid hlt
   have HQ := hid hq
   clear hlt hq
   by_cases hkn : k < m
   ·have hknI : (k : Int) < (m : Int) := by omega
    have hk0 : (0 : Int) ≤ (k : Int) := by omega
    have hkb : (k : Int) ≤ 9223372036854775806 := by have := hlc.out; omega
    obtain ⟨x, hx⟩ : ∃ x, la[k]? = some x := ⟨_, List.getElem?_eq_getElem (by have := HM.out; omega)⟩
    obtain ⟨y, hy⟩ : ∃ y, lb[k]? = some y := ⟨_, List.getElem?_eq_getElem (by have := HN.out; omega)⟩
    obtain ⟨ba, rfl, _⟩ := (HA.out.later HQ.out).at hx
    obtain ⟨bb, rfl, _⟩ := (HB.out.later HQ.out).at hy
    have hC := fun z : Ext wr => (HA.out.later (HQ.out.trans (z.below.mono HQ.out.size))).at4 hx
    have hD := fun z : Ext wr => (HB.out.later (HQ.out.trans (z.below.mono HQ.out.size))).at4 hy
    have wx := HA.out.ok hx
    have wy := HB.out.ok hy
    have hE := lim_same x y wx wy
    have c0 := fun z : Ext wr => (hC z).1
    have c1 := fun z : Ext wr => (hC z).2.1
    have c2 := fun z : Ext wr => (hC z).2.2.1
    have c3 := fun z : Ext wr => (hC z).2.2.2
    have d0 := fun z : Ext wr => (hD z).1
    have d1 := fun z : Ext wr => (hD z).2.1
    have d2 := fun z : Ext wr => (hD z).2.2.1
    have d3 := fun z : Ext wr => (hD z).2.2.2
    have HK := hid hkn
    have HX := hid (And.intro hx hy)
    clear hkn hx hy wx wy hk hC hD
    by_cases hxy : x = y
    ·rw [decide_eq_true hxy] at hE
     have HXY := hid hxy
     clear hxy
     generalize lim x 0 = x0 at *
     generalize lim x 1 = x1 at *
     generalize lim x 2 = x2 at *
     generalize lim x 3 = x3 at *
     generalize lim y 0 = y0 at *
     generalize lim y 1 = y1 at *
     generalize lim y 2 = y2 at *
     generalize lim y 3 = y3 at *
     go_wp2_with fail
     refine wp_region_quietL (C := Grows wr) hmx (by kernel_rfl) (grows_refl wr) ?_
     repeat (go_big_quiet_step (fail))
     refine wpQuiet_nil ?_
     rintro _ ⟨z, rfl⟩
     have HE := hid (HQ.out.trans (z.below.mono HQ.out.size))
     clear c0 c1 c2 c3 d0 d1 d2 d3
     go_wp2_with fail
     go_roundw
     case rel => exact ⟨k + 1, by have := HK.out; omega, by simp, fun j x' y' hj hx hy => by
      by_cases hjk : j < k
      ·exact HLT.out j x' y' hjk hx hy
      ·obtain rfl : j = k := by omega
       rw [HX.out.1] at hx
       rw [HX.out.2] at hy
       injection hx with hx
       injection hy with hy
       subst hx hy
       exact HXY.out, HE.out⟩
     case measure => have := HK.out; simp [intOf]; omega
    ·rw [decide_eq_false hxy] at hE
     have HXY := hid (show la ≠ lb from fun h => hxy (by
      have h1 := HX.out.1
      rw [h, HX.out.2] at h1
      injection h1 with h1
      exact h1.symm))
     clear hxy
     generalize lim x 0 = x0 at *
     generalize lim x 1 = x1 at *
     generalize lim x 2 = x2 at *
     generalize lim x 3 = x3 at *
     generalize lim y 0 = y0 at *
     generalize lim y 1 = y1 at *
     generalize lim y 2 = y2 at *
     generalize lim y 3 = y3 at *
     go_wp2_with fail
     refine wp_region_quietL (C := Grows wr) hmx (by kernel_rfl) (grows_refl wr) ?_
     repeat (go_big_quiet_step (fail))
     refine wpQuiet_nil ?_
     rintro _ ⟨z, rfl⟩
     have HE := hid (HQ.out.trans (z.below.mono HQ.out.size))
     clear c0 c1 c2 c3 d0 d1 d2 d3
     go_wp2_with fail
     exact hno.out _ HE.out HXY.out
   ·have hknI : ¬ (k : Int) < (m : Int) := by omega
    have HR := hid (show ∀ (j : Nat) (x y : Nat), la[j]? = some x → lb[j]? = some y → x = y from fun j x y hx hy => HLT.out j x y (by
     have := (List.getElem?_eq_some_iff.1 hx).1
     have := HM.out
     omega) hx hy)
    go_wp2_with fail
    exact hres.out _ HQ.out HR.out
 ·have hI : ¬ (m : Int) = (n : Int) := by omega
  have hne := hid (show la ≠ lb from fun h => hmn (by rw [← HM.out, ← HN.out, h]))
  clear hmn
  go_enter Try.func11, Try.ntmps11
  go_wp2_with fail
  go_ret
  exact ⟨by rw [decide_eq_false hne.out]; rfl, Below.refl _ _⟩
def pushE (s l : List Nat) : Int := if 1024 < s.length then 1 else if 1024 < s.length + l.length then 41 else 0
def pushL (s l : List Nat) : List Nat := if pushE s l = 0 then s ++ l else s
def PushP (W : World) (s l : List Nat) (e : Ending) (w' : World) : Prop := ∃ v', e = .returned (.tuple #[v', .int .i64 (pushE s l)]) ∧ WdsAt w' v' (pushL s l) ∧ Below W.heap.size W w'
theorem concat2W (W : World) (C : Nat) (x y : Value) (r r2 : List Nat) (hC : Has W C 27 #[x, y]) (h1 : WdsAt W x r) (h2 : WdsAt W y r2) (hl : r.length + r2.length ≤ 100000) :
  Calls Try.prog 22 #[.slice (some ⟨C, 0, none⟩) 2 2] W fun e w' => ∃ v', e = .returned v' ∧ WdsAt w' v' (r ++ r2) ∧ Below W.heap.size W w' := by
 have h := concat_words W C [(x, r), (y, r2)] (fun i q hq => by
  match i, hq with
  | 0, hq => injection hq with hq; subst hq; exact ⟨hC.cell 0 _ rfl, h1⟩
  | 1, hq => injection hq with hq; subst hq; exact ⟨hC.cell 1 _ rfl, h2⟩
  | i + 2, hq => simp at hq) (by simp) (by simp [sumW]; exact hl)
 refine h.mono ?_
 rintro e w' ⟨v', he, hr, hb⟩
 refine ⟨v', he, ?_, hb⟩
 have := hr.keys (fun z hz => by
  simp [catW] at hz
  rcases hz with hz | hz
  ·exact h1.all z hz
  ·exact h2.all z hz)
 simpa [catW] using this
theorem clone_words' (W : World) (sv : Value) (l : List Nat) (hs : WdsAt W sv l) (hl : l.length ≤ 100000) :
  Calls Try.prog 21 #[sv] W fun e w' => ∃ v', e = .returned v' ∧ WdsAt w' v' l ∧ Below W.heap.size W w' :=
 (clone_words W sv l hs hl).mono fun _ _ ⟨v', he, hr, hb⟩ => ⟨v', he, hr.keys hs.all, hb⟩
theorem own_words' (W : World) (sv : Value) (l : List Nat) (hs : WdsAt W sv l) (hl : l.length ≤ 100000) :
  Calls Try.prog 23 #[sv] W fun e w' => ∃ v', e = .returned v' ∧ WdsAt w' v' l ∧ Below W.heap.size W w' :=
 (own_words W sv l hs hl).mono fun _ _ ⟨v', he, hr, hb⟩ => ⟨v', he, hr.keys hs.all, hb⟩
theorem push_any (W : World) (sv lv : Value) (s l : List Nat) (hs : WdsAt W sv s) (hl : WdsAt W lv l) (hk : s.length ≤ 10000) (hm : l.length ≤ 10000) :
  Calls Try.prog 9 #[sv, lv] W (PushP W s l) := by
 have hfin := hid (show ∀ v' (w' : World) (c : Int) (r : List Nat), pushE s l = c → pushL s l = r → WdsAt w' v' r → Below W.heap.size W w' → PushP W s l (.returned (.tuple #[v', .int .i64 c])) w' from fun v' w' c r h1 h2 h3 h4 => by subst h1 h2; exact ⟨v', rfl, h3, h4⟩)
 obtain ⟨Post, hPost⟩ : ∃ Post, PushP W s l = Post := ⟨_, rfl⟩
 rw [hPost] at hfin ⊢
 clear hPost
 have HS := hid hs
 have HL := hid hl
 obtain ⟨a, ca, rfl, _, _⟩ := hs.shape
 obtain ⟨b, cb, rfl, _, _⟩ := hl.shape
 have HR := hid (room_ret a s.length ca 1024 (by omega) (by decide) (by decide))
 have HC := hid (fun X (hX : Below W.heap.size W X) => clone_words' X _ s (hs.later hX) (by omega))
 have HCC := hid (fun X C (hX : Below W.heap.size W X) hH => concat2W X C _ _ s l hH (hs.later hX) (hl.later hX) (by omega))
 have HE := hid (show ∀ c1, pushE s l = c1 → pushL s l = if c1 = 0 then s ++ l else s from fun c h => by subst h; rfl)
 have HP := hid (show pushE s l = if 1024 < s.length then 1 else if 1024 < s.length + l.length then 41 else 0 from rfl)
 clear hs hl
 generalize s.length = n at *
 generalize l.length = m at *
 have h0 : (0 : Int) ≤ (n : Int) := by omega
 have h1 : (n : Int) ≤ 10000 := by omega
 have h2 : (0 : Int) ≤ (m : Int) := by omega
 have h3 : (m : Int) ≤ 10000 := by omega
 by_cases c1 : 1024 < n
 ·have c1' : (1024 : Int) - (n : Int) < 0 := by omega
  have he := hid (show pushE s l = 1 by rw [HP.out, if_pos c1])
  clear hk hm c1
  go_enter Try.func9, Try.ntmps9
  go_wp2_with fail
  refine (HR.out _).mono ?_
  rintro e w1 ⟨rfl, q1⟩
  go_wp2_with fail
  refine (HC.out _ q1).mono ?_
  rintro e w2 ⟨v', rfl, k2, q2⟩
  go_wp2
  exact hfin.out _ _ _ _ he.out (HE.out _ he.out) k2 (q1.trans (q2.mono q1.size))
 ·have c1' : ¬ (1024 : Int) - (n : Int) < 0 := by omega
  by_cases c2 : 1024 < n + m
  ·have c2' : (m : Int) > (1024 : Int) - (n : Int) := by omega
   have he := hid (show pushE s l = 41 by rw [HP.out, if_neg c1, if_pos c2])
   clear hk hm c1 c2
   go_enter Try.func9, Try.ntmps9
   go_wp2_with fail
   refine (HR.out _).mono ?_
   rintro e w1 ⟨rfl, q1⟩
   go_wp2_with fail
   refine (HC.out _ q1).mono ?_
   rintro e w2 ⟨v', rfl, k2, q2⟩
   go_wp2
   exact hfin.out _ _ _ _ he.out (HE.out _ he.out) k2 (q1.trans (q2.mono q1.size))
  ·have c2' : ¬ (m : Int) > (1024 : Int) - (n : Int) := by omega
   have he := hid (show pushE s l = 0 by rw [HP.out, if_neg c1, if_neg c2])
   clear hk hm c1 c2
   go_enter Try.func9, Try.ntmps9
   go_wp2_with fail
   refine (HR.out _).mono ?_
   rintro e w1 ⟨rfl, q1⟩
   go_wp2_with fail
   have q1b := newA w1 (.cells #[.slice a n ca, .slice b m cb] 27)
   refine (HCC.out _ w1.heap.size (q1.trans (q1b.mono q1.size)) (Has.new w1 _ _)).mono ?_
   rintro e w2 ⟨v', rfl, k2, q2⟩
   go_wp2
   have qq := q1.trans (q1b.mono q1.size)
   exact hfin.out _ _ _ _ he.out (HE.out _ he.out) k2 (qq.trans (q2.mono qq.size))
end
end Go.Proofs.Ythfghmodfpddpaa

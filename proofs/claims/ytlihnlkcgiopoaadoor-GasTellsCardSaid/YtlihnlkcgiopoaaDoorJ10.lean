/- Part. -/
import Derived.Calls
import Derived.Deep.AppendSrc
import Derived.Laws.AppendOwn
import Derived.Test.YtlihnlkcgiopoaaDoorJ01
import Derived.Lib.QuietBelow
import Derived.Lib.SliceRun
import Derived.Deep.Upon
import Derived.Test.YtlihnlkcgiopoaaDoorJ09
import Derived.Great.BuildSlice
import Derived.Test.YtlihnlkcgiopoaaDoorJ08
import Derived.Test.YtlihnlkcgiopoaaDoorJ06
import Derived.Lib.AppendZerosOnto
set_option maxRecDepth 100000
set_option maxHeartbeats 16000000
namespace Go.Proofs.YtlihnlkcgiopoaaDoor
section
open Go
def _root_.Go.Result.at {α : Type} : Result α → World
 | .ok _ w => w
 | .halt _ w => w
def _root_.Go.GStep.at : GStep → World
 | .go _ w _ => w
 | .comm _ _ _ _ w _ => w
 | .spawn _ _ w _ => w
 | .count _ w _ => w
 | .timer _ _ w _ => w
 | .alone _ _ w _ => w
 | .newcoro _ _ _ w _ => w
 | .coroswitch _ _ _ w _ => w
 | .collect _ w _ => w
 | .watch _ w _ => w
 | .ended _ w _ => w
def _root_.Go.Stepped.at : Stepped → World
 | .next m => m.world
 | .ended _ w => w
def _root_.Go.Move.low (n : Nat) : Move → Prop
 | .goroutine m _ => n ≤ m.world.drawn
 | .machine (.next m) _ => n ≤ m.world.drawn
 | .machine (.ended _ _) _ => True
end
section
open Go Go.RowKit
variable {P : Program} (w : World)
def NewBlock (w : World) (v v' : Value) : Prop := v'.ownBlock = v.ownBlock ∨ v'.ownBlock = some w.heap.size
end
section
open Go Go.RowKit
variable {P : Program} (w : World)
theorem run_append_src (base : Nat) (t tx ty e : TypeId) (i : TypeInfo) (z : Value) (size bytes : Nat) (ht : P.underlying t = some (.slice e)) (hi : P.info? e = some i) (hz : i.zero = some z)
  (hsize : i.size = size) (hby : i.bytes = bytes) (hzs : z.cells.size = size) (_hs0 : 0 < size) (v : Value) (n : Nat) (xs : List Value) (hown : w.ownsRow base e size v n xs)
  (x : Value) (m : Nat) (hm : 0 < m) (news : List Value) (hsrc : Src P i.size tx x m news w)
  (hb : (n + m) * bytes ≤ 140737488355328) (h63 : n + m ≤ maxLen) (hbase : base ≤ w.heap.size) :
  ∃ v' w', (Builtin.append_ #[t, tx] ty #[v, x]).run P w = .ok v' w' ∧ w'.ownsRow base e size v' (n + m) (xs ++ news) ∧ w.grownBy w' v.ownBlock ∧ NewBlock w v v' := by
 have hl : news.length = m * size := by rw [← hsize]; exact hsrc.newsLen
 have hlen : (xs ++ news).length = (n + m) * size := by rw [List.length_append, hown.1, hl, Nat.add_mul]
 have grown : ∀ (old : Nat), old < n + m → ∀ (row : Option Nat),
   (w.drew.alloc (.cells (xs.toArray ++ news.toArray ++ Builtin.zeroCells z.cells (grownCap w (n + m) old e - (n + m))) e)).ownsRow base e size
    (.slice (some ⟨w.heap.size, 0, none⟩) (n + m) (grownCap w (n + m) old e)) (n + m) (xs ++ news) ∧
   w.grownBy (w.drew.alloc (.cells (xs.toArray ++ news.toArray ++ Builtin.zeroCells z.cells (grownCap w (n + m) old e - (n + m))) e)) row := by
  intro old ho row
  have hge := grownCap_ge w (n + m) old e
  have hcm : grownCap w (n + m) old e ≤ maxLen := grownCap_le_maxLen w (n + m) old e h63
  refine ⟨⟨hlen, .inr ⟨w.heap.size, _, _, rfl, hbase, heap_alloc_new w.drew _, hge, hcm, ?_, ?_⟩⟩, ⟨rfl, rfl, rfl, by simp, fun k hk _ => Below.heap_alloc w.drew _ k hk⟩⟩
  ·simp only [Array.size_append, List.size_toArray, size_zeroCells, hzs, hown.1, hl, ← Nat.add_mul]
   congr 1
   omega
  ·simp only [Array.toList_append, List.append_assoc]
   rw [← List.append_assoc, ← hlen]
   exact List.take_left
 rcases hown.2 with ⟨rfl, rfl⟩ | ⟨g, cap, cur, rfl, hbg, hg, hnc, hcm, hcs, htake⟩
 ·have hx : xs = [] := List.eq_nil_of_length_eq_zero (by simpa using hown.1)
  subst hx
  have hr := run_append_grow_src (P := P) w t tx ty e i z ht hi hz none 0 0 [] (by simp [Builtin.firstCells]) x m news hsrc (by omega) (by simp only [maxLen] at h63; omega) (growslice_fits (by omega) (by rw [hby]; exact hb))
  have hgr := grown 0 (by omega) (Value.ownBlock (.slice none 0 0))
  simp only [List.nil_append, Array.empty_append, Nat.zero_add] at hr hgr ⊢
  exact ⟨_, _, hr, hgr.1, hgr.2, .inr rfl⟩
 ·by_cases hroom : n + m ≤ cap
  ·have hfit : n * i.size + news.length ≤ cur.size := by rw [hl, hcs, hsize, ← Nat.add_mul]; exact Nat.mul_le_mul_right _ hroom
   have hst := run_storeCells_at P g (n * i.size) e news 0 cur w hg (by simpa using hfit) hsrc.one
   simp only [Nat.add_zero] at hst
   have hr : (Builtin.append_ #[t, tx] ty #[.slice (some ⟨g, 0, none⟩) n cap, x]).run P w = .ok (.slice (some ⟨g, 0, none⟩) (n + m) cap) (w.setRow g (cur.toList.take (n * i.size) ++ news ++ cur.toList.drop (n * i.size + news.length)).toArray) := by
    rcases hsrc.kind with ⟨e', hk⟩ | hk <;> simp [Builtin.append_, run_underlying ht, run_underlying hk, sizeOf, typeInfo, hi, hsrc.len, hroom, hsrc.cells, Addr.add_lit, hst]
   rw [hsize] at hr
   refine ⟨_, _, hr, ⟨hlen, .inr ⟨g, cap, _, rfl, hbg, setRow_heap w g cur _ e _ hg, hroom, hcm, ?_, ?_⟩⟩, ⟨rfl, rfl, rfl, by simp, fun k _ hk => setRow_other w g k _ (fun e => hk (by simp [Value.ownBlock, e]))⟩, .inl rfl⟩
   ·rw [hsize] at hfit
    simp only [List.size_toArray, List.length_append, List.length_take, List.length_drop, Array.length_toList]
    omega
   ·rw [htake, ← hlen]
    exact List.take_left
  ·have holds : (Builtin.firstCells i.size n (.slice (some ⟨g, 0, none⟩) n cap)).run P w.drew = .ok xs.toArray w.drew := by
    rw [hsize]
    exact run_firstCells_some w.drew size n ⟨g, 0, none⟩ n cap xs hown.1 (fun j u hj => by
     have := hown.cells (g := g) rfl j u hj
     simpa using this)
   have hr := run_append_grow_src (P := P) w t tx ty e i z ht hi hz (some ⟨g, 0, none⟩) n cap xs holds x m news hsrc (by omega) (by simp only [maxLen] at h63; omega) (growslice_fits (by omega) (by rw [hby]; exact hb))
   have hgr := grown cap (by omega) (Value.ownBlock (.slice (some ⟨g, 0, none⟩) n cap))
   have hap : ((xs ++ news).toArray : Array Value) = xs.toArray ++ news.toArray := by simp
   rw [hap] at hr
   exact ⟨_, _, hr, hgr.1, hgr.2, .inr rfl⟩
end
section
open Go Go.RowKit
attribute [local go_sem] Oper.semAt_some Grows wide_fn
def flatKy (l : List Ky) : List Value := l.flatMap kyL
theorem flatKy_length : ∀ (l : List Ky), (flatKy l).length = l.length * 25
 | [] => rfl
 | x :: l => by
  have := flatKy_length l
  simp only [flatKy, List.flatMap_cons, List.length_append, List.length_cons] at this ⊢
  rw [this, kyL_len]
  omega
theorem flatKy_at : ∀ (l : List Ky) (i : Nat) (x : Ky) (j : Nat), l[i]? = some x → j < 25 → (flatKy l)[i * 25 + j]? = (kyL x)[j]?
 | [], i, x, j, h, _ => by simp at h
 | y :: l, 0, x, j, h, hj => by
  simp at h
  subst h
  rw [show flatKy (y :: l) = kyL y ++ flatKy l from rfl, List.getElem?_append_left (by rw [kyL_len]; omega), Nat.zero_mul, Nat.zero_add]
 | y :: l, i + 1, x, j, h, hj => by
  rw [show flatKy (y :: l) = kyL y ++ flatKy l from rfl, List.getElem?_append_right (by rw [kyL_len]; omega), kyL_len, show (i + 1) * 25 + j - 25 = i * 25 + j by omega]
  exact flatKy_at l i x j (by simpa using h) hj
def KRow (W : World) (base : Nat) (v : Value) (l : List Ky) : Prop := W.ownsRow base 58 25 v l.length (flatKy l)
theorem KRow.keys {W : World} {base : Nat} {v : Value} {l : List Ky} (h : KRow W base v l) (hw : ∀ x ∈ l, KyOk x) : KeysAt W v l := by
 rcases h.2 with ⟨rfl, h0⟩ | ⟨g, cap, cur, rfl, hbg, hg', hnc, hcm, hcs, htake⟩
 ·have : l = [] := List.eq_nil_of_length_eq_zero h0
  subst this
  exact KeysAt.nil W
 ·refine ⟨some ⟨g, 0, none⟩, cap, rfl, hnc, by simpa [maxLen] using hcm, hw, fun i x hx => ⟨⟨g, 0, none⟩, rfl, fun j u hj => ?_⟩⟩
  have hj25 : j < 25 := by have := (List.getElem?_eq_some_iff.1 hj).1; rwa [kyL_len] at this
  rw [Addr.add_add]
  exact World.ownsRow.cells h (g := g) rfl _ _ ((flatKy_at l i x j hx hj25).trans hj)
theorem KRow.later {W X : World} {base : Nat} {v : Value} {l : List Ky} (h : KRow W base v l) (hb : Below W.heap.size W X) : KRow X base v l := by
 refine ⟨h.1, ?_⟩
 rcases h.2 with h0 | ⟨g, cap, cur, rfl, hbg, hg', hr⟩
 ·exact .inl h0
 ·exact .inr ⟨g, cap, cur, rfl, hbg, (hb.block g (Array.getElem?_eq_some_iff.1 hg').1).trans hg', hr⟩
theorem infoK : (Tryd.prog.info? 58).map (fun i => (i.zero, i.size, i.bytes)) = some (some (.agg #[.int .u8 0, .int .u8 0, .int .u8 0, .int .u8 0, .int .u8 0, .int .u8 0, .int .u8 0, .int .u8 0, .int .u8 0, .int .u8 0, .int .u8 0, .int .u8 0, .int .u8 0, .int .u8 0, .int .u8 0, .int .u8 0, .int .u8 0, .int .u8 0, .int .u8 0, .int .u8 0, .bool false, .int .u64 0, .int .u64 0, .int .u64 0, .int .u64 0]), 25, 56) := by kernel_rfl
theorem infoK_of : ∃ i, Tryd.prog.info? 58 = some i ∧ i.zero = some (.agg #[.int .u8 0, .int .u8 0, .int .u8 0, .int .u8 0, .int .u8 0, .int .u8 0, .int .u8 0, .int .u8 0, .int .u8 0, .int .u8 0, .int .u8 0, .int .u8 0, .int .u8 0, .int .u8 0, .int .u8 0, .int .u8 0, .int .u8 0, .int .u8 0, .int .u8 0, .int .u8 0, .bool false, .int .u64 0, .int .u64 0, .int .u64 0, .int .u64 0]) ∧ i.size = 25 ∧ i.bytes = 56 := by
 have h := infoK
 rcases hi : Tryd.prog.info? 58 with _ | i
 ·rw [hi] at h; cases h
 ·rw [hi] at h
  injection h with h
  simp only [Prod.mk.injEq] at h
  exact ⟨i, rfl, h.1, h.2.1, h.2.2⟩
theorem wpList_append_runK {P : Program} {w w' : World} {ops : Array Oper} {rest : List Oper} {o : Oper} {a : Act} {Q : Exit → Act → World → Prop}
  (hg : o.guard = none) (s x : Operand) (t : TypeId) (hop : o.op = Op.call { callee := Callee.builtin Builtin.append, args := #[s, x], argTypes := #[t, t] })
  (v x0 v' : Value) (hs : a.eval s = v) (hx : a.eval x = x0) (hr : (Builtin.append_ #[t, t] o.type #[v, x0]).run P w = .ok v' w')
  (hK : wpList P ops Q rest (a.put o.dst v') w') : wpList P ops Q (o :: rest) a w := by
 refine wpList_plain hg fun K hK' => ?_
 unfold Oper.wp execOp
 simp only [hop, resolve, invoke, builtin, Sem.run_bind, Sem.run_pure, Result.andThen_ok, List.map_toArray, List.map_cons, List.map_nil, hs, hx, hr]
 exact hK' _ _ hK
end
section
open Go Go.RowKit
attribute [local go_sem] Oper.semAt_some Grows wide_fn eq4
theorem wv_natG (n : Nat) (h : n < 18446744073709551616) : wv n = .agg #[.int .u64 (n : Int), .int .u64 0, .int .u64 0, .int .u64 0] := by
 refine wv_of ⟨?_, ?_, ?_, ?_⟩
 ·show ((n % 18446744073709551616 : Nat) : Int) = _
  rw [Nat.mod_eq_of_lt h]
 ·show ((n / 18446744073709551616 % 18446744073709551616 : Nat) : Int) = _
  rw [Nat.div_eq_of_lt h]; rfl
 ·show ((n / 340282366920938463463374607431768211456 % 18446744073709551616 : Nat) : Int) = _
  rw [Nat.div_eq_of_lt (by omega)]; rfl
 ·show ((n / 6277101735386680763835789423207666416102355444464034512896 % 18446744073709551616 : Nat) : Int) = _
  rw [Nat.div_eq_of_lt (by omega)]; rfl
theorem ofRG (n : Nat) (h : n ≤ 9223372036854775807) : Ret Tryd.prog 23 #[.int .i64 (n : Int)] (.agg #[.int .u64 (n : Int), .int .u64 0, .int .u64 0, .int .u64 0]) := by
 have h1 := refOf_ret (n : Int) (by unfold I64; omega)
 rw [ofN_nat, wv_natG n (by omega)] at h1
 exact h1
theorem fill_k1G (x : Ky) (cells : Array Value) (h : cells.size = 25) : Instr.fill (fun i => some (i * 25, 25)) cells [(0, .agg (kyC x))] = some (flatKy [x]).toArray := by
 have := Great.fill_whole (s := 25) (by decide) [.agg (kyC x)] cells (fun v hv => by
  simp at hv
  subst hv
  exact kyC_size x) (by simp [h])
 simpa [Value.cells, flatKy, kyC] using this
theorem infoKzG : ∃ i z, Tryd.prog.info? 58 = some i ∧ i.zero = some z ∧ i.size = 25 := by
 obtain ⟨i, hi, hz, hs⟩ := infoK_of
 exact ⟨i, _, hi, hz, hs.1⟩
theorem wpList_build_k1G {ops : Array Oper} {rest : List Oper} {o : Oper} {a : Act} {w : World} {Q : Exit → Act → World → Prop} (hw : Region.wanted o (yielded ops a.tmps) = true) (y : Operand) (ho : o.op = .buildSlice 28 1 #[(0, y)]) (x : Ky) (hy : a.eval y = .agg (kyC x))
  (h : wpList Tryd.prog ops Q rest (a.put o.dst (.slice (some ⟨w.heap.size, 0, none⟩) 1 1)) (w.alloc (.cells (flatKy [x]).toArray 58))) : wpList Tryd.prog ops Q (o :: rest) a w := by
 obtain ⟨i, z, hi, hz, hsz⟩ := infoKzG
 refine BigFrame.wpList_want hw fun K hK => wp_buildSlice 28 58 1 #[(0, y)] ho (flatKy [x]).toArray i z Tryd.underlying28 hi hz (by rw [hsz]; decide) (by rw [hsz]; decide) ?_ (hK _ _ h)
 rw [hsz]
 simp only [List.map_toArray, List.map_cons, List.map_nil, hy]
 exact fill_k1G x _ (by simp)
def kyNone : Ky := ⟨0, false, 0⟩
theorem kyNone_ok : KyOk kyNone := ⟨by decide, by show W256 0; unfold W256; decide⟩
theorem kyNone_cells : (.agg #[.int .u8 0, .int .u8 0, .int .u8 0, .int .u8 0, .int .u8 0, .int .u8 0, .int .u8 0, .int .u8 0, .int .u8 0, .int .u8 0, .int .u8 0, .int .u8 0, .int .u8 0, .int .u8 0, .int .u8 0, .int .u8 0, .int .u8 0, .int .u8 0, .int .u8 0, .int .u8 0, .bool false, .int .u64 0, .int .u64 0, .int .u64 0, .int .u64 0] : Value) = .agg (kyC kyNone) := by rfl
theorem keys_one (w : World) (x : Ky) (hx : KyOk x) : KeysAt (w.alloc (.cells (flatKy [x]).toArray 58)) (.slice (some ⟨w.heap.size, 0, none⟩) 1 1) [x] := by
 refine ⟨some ⟨w.heap.size, 0, none⟩, 1, rfl, by simp, by decide, fun y hy => by rw [List.mem_singleton.1 hy]; exact hx, fun i y hy => ?_⟩
 refine ⟨⟨w.heap.size, 0, none⟩, rfl, fun j u hj => ?_⟩
 have hi : i = 0 := by
  have := (List.getElem?_eq_some_iff.1 hy).1
  simpa using this
 subst hi
 simp at hy
 subst hy
 rw [Nat.zero_mul, add_lit, add_lit]
 refine (Has.new w 58 (flatKy [x]).toArray).cell _ _ ?_
 simp only [Nat.zero_add, List.getElem?_toArray]
 rw [show flatKy [x] = kyL x by simp [flatKy]]
 exact hj
theorem awakeG_walk  (o0 : Ret Tryd.prog 23 #[.int .i64 0] (.agg #[.int .u64 0, .int .u64 0, .int .u64 0, .int .u64 0])) (o1 : Ret Tryd.prog 23 #[.int .i64 1] (.agg #[.int .u64 1, .int .u64 0, .int .u64 0, .int .u64 0])) (om : Ret Tryd.prog 23 #[.int .i64 (-1)] (.agg #[.int .u64 18446744073709551615, .int .u64 18446744073709551615, .int .u64 18446744073709551615, .int .u64 18446744073709551615])) (o256 : Ret Tryd.prog 23 #[.int .i64 256] (.agg #[.int .u64 256, .int .u64 0, .int .u64 0, .int .u64 0])) (s1 : Ret Tryd.prog 21 #[.agg #[.int .u64 0, .int .u64 0, .int .u64 0, .int .u64 0], .agg #[.int .u64 0, .int .u64 0, .int .u64 0, .int .u64 0], .agg #[.int .u64 1, .int .u64 0, .int .u64 0, .int .u64 0], .bool true] (.tuple #[.int .i64 20000, .int .i64 0])) (s2 : Ret Tryd.prog 21 #[.agg #[.int .u64 0, .int .u64 0, .int .u64 0, .int .u64 0], .agg #[.int .u64 1, .int .u64 0, .int .u64 0, .int .u64 0], .agg #[.int .u64 0, .int .u64 0, .int .u64 0, .int .u64 0], .bool true] (.tuple #[.int .i64 100, .int .i64 19900])) (c1 : Ret Tryd.prog 24 #[.int .i64 6500, .agg #[.int .u64 18446744073709551615, .int .u64 18446744073709551615, .int .u64 18446744073709551615, .int .u64 18446744073709551615], .bool true, .bool false, .bool false] (.tuple #[.int .i64 6400, .int .i64 6300, .bool true])) (c2 : Ret Tryd.prog 24 #[.int .i64 99, .agg #[.int .u64 1, .int .u64 0, .int .u64 0, .int .u64 0], .bool true, .bool false, .bool false] (.tuple #[.int .i64 0, .int .i64 0, .bool false])) (ex : Ret Tryd.prog 27 #[.agg #[.int .u64 256, .int .u64 0, .int .u64 0, .int .u64 0]] (.int .i64 100)) (cp : Ret Tryd.prog 11 #[.int .i64 33] (.int .i64 6)) (ha : Ret Tryd.prog 13 #[.int .i64 1] (.int .i64 6)) (lo : Ret Tryd.prog 15 #[.int .i64 5] (.int .i64 40)) (ini : Ret Tryd.prog 17 #[.int .i64 32, .bool true] (.int .i64 8)) (to : Ret Tryd.prog 29 #[.bool true, .bool false] (.int .i64 2100)) (sta : Ret Tryd.prog 31 #[.string ⟨#[0, 97]⟩, .bool true] (.int .i64 53022)) (ba : Ret Tryd.prog 19 #[.int .i64 100, .int .i64 50] (.int .i64 20)) :
  Ret Tryd.prog 9 #[] (.bool true) := by
 intro w
 have Ho0 := hid o0
 have Ho1 := hid o1
 have Hom := hid om
 have Ho256 := hid o256
 have Hs1 := hid s1
 have Hs2 := hid s2
 have Hc1 := hid c1
 have Hc2 := hid c2
 have Hex := hid ex
 have Hcp := hid cp
 have Hha := hid ha
 have Hlo := hid lo
 have Hini := hid ini
 have Hto := hid to
 have Hsta := hid sta
 have Hba := hid ba
 clear o0 o1 om o256 s1 s2 c1 c2 ex cp ha lo ini to sta ba
 go_enter Tryd.func9, Tryd.ntmps9
 go_wp2_with fail
 refine (Ho0.out _).mono ?_
 rintro e v1 ⟨rfl, q⟩
 have Q := q
 clear q
 go_wp2_with fail
 refine (Ho0.out _).mono ?_
 rintro e v2 ⟨rfl, q⟩
 have Q := Q.trans (q.mono Q.size)
 clear q
 go_wp2_with fail
 refine (Ho1.out _).mono ?_
 rintro e v3 ⟨rfl, q⟩
 have Q := Q.trans (q.mono Q.size)
 clear q
 go_wp2_with fail
 refine (Hs1.out _).mono ?_
 rintro e v4 ⟨rfl, q⟩
 have Q := Q.trans (q.mono Q.size)
 clear q
 go_wp2_with fail
 refine (Ho0.out _).mono ?_
 rintro e v5 ⟨rfl, q⟩
 have Q := Q.trans (q.mono Q.size)
 clear q
 go_wp2_with fail
 refine (Ho1.out _).mono ?_
 rintro e v6 ⟨rfl, q⟩
 have Q := Q.trans (q.mono Q.size)
 clear q
 go_wp2_with fail
 refine (Ho0.out _).mono ?_
 rintro e v7 ⟨rfl, q⟩
 have Q := Q.trans (q.mono Q.size)
 clear q
 go_wp2_with fail
 refine (Hs2.out _).mono ?_
 rintro e v8 ⟨rfl, q⟩
 have Q := Q.trans (q.mono Q.size)
 clear q
 go_wp2_with fail
 refine (Hom.out _).mono ?_
 rintro e v9 ⟨rfl, q⟩
 have Q := Q.trans (q.mono Q.size)
 clear q
 go_wp2_with fail
 refine (Hc1.out _).mono ?_
 rintro e v10 ⟨rfl, q⟩
 have Q := Q.trans (q.mono Q.size)
 clear q
 go_wp2_with fail
 refine (Ho1.out _).mono ?_
 rintro e v11 ⟨rfl, q⟩
 have Q := Q.trans (q.mono Q.size)
 clear q
 go_wp2_with fail
 refine (Hc2.out _).mono ?_
 rintro e v12 ⟨rfl, q⟩
 have Q := Q.trans (q.mono Q.size)
 clear q
 go_wp2_with fail
 refine (Ho256.out _).mono ?_
 rintro e v13 ⟨rfl, q⟩
 have Q := Q.trans (q.mono Q.size)
 clear q
 go_wp2_with fail
 refine (Hex.out _).mono ?_
 rintro e v14 ⟨rfl, q⟩
 have Q := Q.trans (q.mono Q.size)
 clear q
 go_wp2_with fail
 refine (Hcp.out _).mono ?_
 rintro e v15 ⟨rfl, q⟩
 have Q := Q.trans (q.mono Q.size)
 clear q
 go_wp2_with fail
 refine (Hha.out _).mono ?_
 rintro e v16 ⟨rfl, q⟩
 have Q := Q.trans (q.mono Q.size)
 clear q
 go_wp2_with fail
 refine (Hlo.out _).mono ?_
 rintro e v17 ⟨rfl, q⟩
 have Q := Q.trans (q.mono Q.size)
 clear q
 go_wp2_with fail
 refine (Hini.out _).mono ?_
 rintro e v18 ⟨rfl, q⟩
 have Q := Q.trans (q.mono Q.size)
 clear q
 go_wp2_with fail
 refine (Hto.out _).mono ?_
 rintro e v19 ⟨rfl, q⟩
 have Q := Q.trans (q.mono Q.size)
 clear q
 go_wp2_with fail
 refine (Hsta.out _).mono ?_
 rintro e v20 ⟨rfl, q⟩
 have Q := Q.trans (q.mono Q.size)
 clear q
 go_wp2_with fail
 refine (Hba.out _).mono ?_
 rintro e v21 ⟨rfl, q⟩
 have Q := Q.trans (q.mono Q.size)
 clear q
 have HQ := hid Q
 clear Q
 go_wp2_with (refine wpList_build_k1G rfl (.tmp 110) rfl kyNone kyNone_cells ?_)
 refine (declared_any _ _ _ [kyNone] [] (keys_one _ _ kyNone_ok) (KeysAt.nil _) (by decide)).mono ?_
 rintro e w9 ⟨rfl, q9⟩
 rw [show ((declN [kyNone] [] : Nat) : Int) = 2400 by decide +kernel]
 have Q9 := hid (q9)
 clear q9
 go_wp2
 go_ret
 refine ⟨rfl, (HQ.out.trans ?_)⟩
 exact (((Below.refl v21.heap.size v21).alloc (Nat.le_refl _) _).trans (Q9.out.mono (by simp))).mono HQ.out.size
theorem awakeG_ret : Ret Tryd.prog 9 #[] (.bool true) := by
 have w0 : wv 0 = .agg #[.int .u64 0, .int .u64 0, .int .u64 0, .int .u64 0] := wv_natG 0 (by decide)
 have w1 : wv 1 = .agg #[.int .u64 1, .int .u64 0, .int .u64 0, .int .u64 0] := wv_natG 1 (by decide)
 have wm : wv (2 ^ 256 - 1) = .agg #[.int .u64 18446744073709551615, .int .u64 18446744073709551615, .int .u64 18446744073709551615, .int .u64 18446744073709551615] := by rfl
 have w256 : wv 256 = .agg #[.int .u64 256, .int .u64 0, .int .u64 0, .int .u64 0] := wv_natG 256 (by decide)
 have h0 : W256 0 := by unfold W256; decide
 have h1 : W256 1 := by unfold W256; decide
 have h2 : W256 256 := by unfold W256; decide
 have hm : W256 (2 ^ 256 - 1) := by unfold W256; decide
 have om := refOf_ret (-1) (by unfold I64; decide)
 rw [show ofN (-1) = 2 ^ 256 - 1 by decide +kernel, wm] at om
 have s1 := store_ret 0 0 1 h0 h0 h1 true
 have s2 := store_ret 0 1 0 h0 h1 h0 true
 rw [w0, w1] at s1 s2
 have c1 := call_ret 6500 (2 ^ 256 - 1) hm true false false
 rw [wm] at c1
 have c2 := call_ret 99 1 h1 true false false
 rw [w1] at c2
 have ex := exp_retG 256 h2
 rw [w256] at ex
 exact awakeG_walk (ofRG 0 (by decide)) (ofRG 1 (by decide)) om (ofRG 256 (by decide)) (Ret.of_eq s1 rfl (by rfl)) (Ret.of_eq s2 rfl (by rfl)) (Ret.of_eq c1 rfl (by unfold callV; rw [if_neg (by decide +kernel)]; simp only [show ownN (6500 - callingN true false false) (2 ^ 256 - 1) = 6300 by decide +kernel]; rfl)) (Ret.of_eq c2 rfl (by unfold callV; rw [if_pos (by decide +kernel)]))
  (Ret.of_eq ex rfl (by rw [show nbG 256 = 2 by decide +kernel]; rfl)) (Ret.of_eq (copy_retG 33) rfl (by rw [show 3 * wordsN 33 = 6 by decide +kernel])) (Ret.of_eq (hash_retG 1) rfl (by rw [show 6 * wordsN 1 = 6 by decide +kernel])) (Ret.of_eq (log_retG 5) rfl (by rw [show 8 * manyN 5 = 40 by decide +kernel])) (Ret.of_eq (init_ret 32 true) rfl (by rw [show initN 32 true = 8 by decide +kernel])) (Ret.of_eq (touch_ret true false) rfl rfl)
  (Ret.of_eq (start_ret ⟨#[0, 97]⟩ (by decide) true) rfl (by rw [show startN ⟨#[0, 97]⟩ true = 53022 by decide +kernel])) (Ret.of_eq (back_ret 100 50 (by unfold I64; decide)) rfl (by rw [show backN 100 50 = 20 by decide +kernel]))
end
section
open Go Go.RowKit
attribute [local go_sem] Oper.semAt_some Grows wide_fn
end
section
open Go Go.RowKit
noncomputable def insK (x : Ky) : List Ky → List Ky
 | [] => [x]
 | y :: r => if kcmp x y < 0 then x :: y :: r else if kcmp x y = 0 then y :: r else y :: insK x r
theorem insK_mem (x : Ky) : ∀ (l : List Ky) (z : Ky), z ∈ insK x l ↔ z = x ∨ z ∈ l
 | [], z => by simp [insK]
 | y :: r, z => by
  unfold insK
  split
  ·simp
  ·split
   ·rename_i h
    have := kcmp_zero.1 h
    subst this
    simp
   ·rw [List.mem_cons, insK_mem x r, List.mem_cons]
    constructor
    ·rintro (h | h | h)
     ·exact .inr (.inl h)
     ·exact .inl h
     ·exact .inr (.inr h)
    ·rintro (h | h | h)
     ·exact .inr (.inl h)
     ·exact .inl h
     ·exact .inr (.inr h)
theorem insK_up (x : Ky) : ∀ (l : List Ky), Kup l → Kup (insK x l)
 | [], _ => List.pairwise_singleton _ _
 | y :: r, h => by
  have h1 := List.pairwise_cons.1 h
  unfold insK
  split
  ·rename_i hlt
   refine List.pairwise_cons.2 ⟨fun z hz => ?_, h⟩
   rcases List.mem_cons.1 hz with rfl | hz
   ·exact hlt
   ·exact Kl.trans hlt (h1.1 z hz)
  ·split
   ·exact h
   ·rename_i h2 h3
    refine List.pairwise_cons.2 ⟨fun z hz => ?_, insK_up x r h1.2⟩
    rcases (insK_mem x r z).1 hz with rfl | hz
    ·rcases kcmp_tri z y with ⟨h, _⟩ | ⟨_, h⟩ | ⟨h, _⟩
     ·exact absurd h h2
     ·exact absurd h h3
     ·exact h
    ·exact h1.1 z hz
theorem insK_len (x : Ky) : ∀ (l : List Ky), (insK x l).length ≤ l.length + 1
 | [] => Nat.le_refl _
 | y :: r => by
  unfold insK
  split
  ·simp
  ·split
   ·simp
   ·have := insK_len x r
    simp only [List.length_cons]
    omega
noncomputable def setL (l : List Ky) : List Ky := l.foldl (fun s x => insK x s) []
theorem setL_snoc (l : List Ky) (x : Ky) : setL (l ++ [x]) = insK x (setL l) := by simp [setL]
theorem foldK (l : List Ky) : ∀ s : List Ky, Kup s → Kup (l.foldl (fun s x => insK x s) s) ∧ ∀ z, z ∈ l.foldl (fun s x => insK x s) s ↔ z ∈ s ∨ z ∈ l := by
 induction l with
 | nil => intro s h; exact ⟨h, fun z => by simp⟩
 | cons x r ih =>
  intro s h
  obtain ⟨h1, h2⟩ := ih (insK x s) (insK_up x s h)
  refine ⟨h1, fun z => ?_⟩
  rw [List.foldl_cons, h2, insK_mem, List.mem_cons]
  constructor
  ·rintro ((h | h) | h)
   ·exact .inr (.inl h)
   ·exact .inl h
   ·exact .inr (.inr h)
  ·rintro (h | h | h)
   ·exact .inl (.inr h)
   ·exact .inl (.inl h)
   ·exact .inr h
theorem setL_len (l : List Ky) : (setL l).length ≤ l.length := by
 have key : ∀ (l s : List Ky), (l.foldl (fun s x => insK x s) s).length ≤ s.length + l.length := by
  intro l
  induction l with
  | nil => intro s; simp
  | cons x r ih =>
   intro s
   have h1 := ih (insK x s)
   have h2 := insK_len x s
   rw [List.foldl_cons, List.length_cons]
   omega
 simpa [setL] using key l []
end
section
open Go Go.RowKit
attribute [local go_sem] Oper.semAt_some Grows wide_fn
theorem KRow.nil (W : World) (base : Nat) : KRow W base (.slice none 0 0) [] := World.ownsRow_nil _ _ _ _
theorem KRow.shapeK {W : World} {base : Nat} {v : Value} {l : List Ky} (h : KRow W base v l) : ∃ a cap, v = .slice a l.length cap := by
 rcases h.2 with ⟨rfl, h0⟩ | ⟨g, cap, cur, rfl, _⟩
 ·exact ⟨none, 0, by rw [h0]⟩
 ·exact ⟨_, _, rfl⟩
theorem KRow.blockK {W : World} {base : Nat} {v : Value} {l : List Ky} (h : KRow W base v l) {b : Nat} (hb : v.ownBlock = some b) : base ≤ b ∧ ∃ cs, W.heap[b]? = some (.cells cs 58 (0, 0)) := by
 rcases h.2 with ⟨rfl, h0⟩ | ⟨g, cap, cur, rfl, hbg, hg', _⟩
 ·cases hb
 ·injection hb with hb
  subst hb
  exact ⟨hbg, cur, hg'⟩
theorem flatKy_append (a b : List Ky) : flatKy (a ++ b) = flatKy a ++ flatKy b := by simp [flatKy]
theorem infoKz_of : ∃ i z, Tryd.prog.info? 58 = some i ∧ i.zero = some z ∧ z.cells.size = 25 ∧ i.size = 25 ∧ i.bytes = 56 := by
 obtain ⟨i, h1, h2, h3, h4⟩ := infoK_of
 exact ⟨i, _, h1, h2, rfl, h3, h4⟩
theorem append_keys (A : World) (base : Nat) (v : Value) (ps : List Ky) (h : KRow A base v ps) (hb : base ≤ A.heap.size) (sv : Value) (qs : List Ky) (hq : KeysAt A sv qs) (hl : ps.length + qs.length ≤ 100000) :
  ∃ v' w', (Builtin.append_ #[28, 28] 28 #[v, sv]).run Tryd.prog A = .ok v' w' ∧ KRow w' base v' (ps ++ qs) ∧ A.grownBy w' v.ownBlock ∧ Below base A w' := by
 obtain ⟨i, z, hi, hz, hzs, hsize, hby⟩ := infoKz_of
 have bel : ∀ w', A.grownBy w' v.ownBlock → Below base A w' := fun w' hgr => ⟨hgr.os, hgr.tape, hgr.output, hgr.size, fun k hk => hgr.block k (by omega) (fun e => by have := (h.blockK e.symm).1; omega)⟩
 obtain ⟨a, cap, rfl, h2, h3, _, h5⟩ := hq
 cases qs with
 | nil =>
  obtain ⟨av, cv, rfl⟩ := h.shapeK
  have hr := run_append_nothing (P := Tryd.prog) A 28 28 28 58 i Tryd.underlying28 hi av ps.length cv (by
   rcases h.2 with ⟨e, h0⟩ | ⟨g, cap, cur, e, hbg, hg', hnc, _⟩
   ·injection e with _ _ e; omega
   ·injection e with _ _ e; subst e; exact hnc) (.slice a 0 cap) (by
   cases a with
   | none => exact Src.ofNil _ Tryd.underlying28 cap
   | some b => exact Src.ofSlice _ Tryd.underlying28 b 0 cap [] (by simp) (fun j u hj => by simp at hj) (fun u hu => by cases hu))
  refine ⟨_, _, hr, by rw [List.append_nil]; exact h, ⟨rfl, rfl, rfl, Nat.le_refl _, fun _ _ _ => rfl⟩, Below.refl _ _⟩
 | cons q r =>
  obtain ⟨b, rfl, _⟩ := h5 0 q rfl
  obtain ⟨v', w', hr, hown, hgr, hnb⟩ := run_append_src (P := Tryd.prog) A base 28 28 28 58 i z 25 56 Tryd.underlying28 hi hz hsize hby hzs (by decide) v ps.length (flatKy ps) h (.slice (some b) (q :: r).length cap) (q :: r).length (by simp) (flatKy (q :: r)) (by
   rw [hsize]
   refine Src.ofSlice _ Tryd.underlying28 b _ cap _ (flatKy_length _) (fun j u hj => ?_) (fun u hu => ?_)
   ·have hj8 : j < (q :: r).length * 25 := by
     have := (List.getElem?_eq_some_iff.1 hj).1
     rwa [flatKy_length] at this
    obtain ⟨y, hy⟩ : ∃ y, (q :: r)[j / 25]? = some y := ⟨_, List.getElem?_eq_getElem (by omega)⟩
    obtain ⟨b', hb', hc⟩ := h5 (j / 25) y hy
    injection hb' with hb'
    subst hb'
    have hf := flatKy_at (q :: r) (j / 25) y (j % 25) hy (by omega)
    rw [show j / 25 * 25 + j % 25 = j by omega, hj] at hf
    have h8 := hc (j % 25) u hf.symm
    rwa [Addr.add_add, show j / 25 * 25 + j % 25 = j by omega] at h8
   ·obtain ⟨y, hy, hu'⟩ := List.mem_flatMap.1 hu
    exact kyL_one y u hu') (by omega) (by unfold maxLen; omega) hb
  refine ⟨v', w', hr, ?_, hgr, bel w' hgr⟩
  unfold KRow
  rw [flatKy_append, List.length_append]
  exact hown
theorem push_keyG (A : World) (base : Nat) (v : Value) (l : List Ky) (h : KRow A base v l) (hb : base ≤ A.heap.size) (hl : l.length ≤ 99999) (y : Ky) (hy : KyOk y) :
  ∃ v' w', (Builtin.append_ #[28, 28] 28 #[v, .slice (some ⟨A.heap.size, 0, none⟩) 1 1]).run Tryd.prog (A.alloc (.cells (flatKy [y]).toArray 58)) = .ok v' w' ∧ KRow w' base v' (l ++ [y]) ∧ Below base A w' := by
 have hm := keys_one A y hy
 have qa := newA A (.cells (flatKy [y]).toArray 58)
 obtain ⟨v', w', h1, h2, _, h4⟩ := append_keys _ base v l (h.later qa) (Nat.le_trans hb qa.size) _ [y] hm (by simp; omega)
 exact ⟨v', w', h1, h2, (qa.mono hb).trans h4⟩
def hasG (x : Ky) (l : List Ky) : Bool := l.any fun y => decide (y = x)
theorem hasG_iff (x : Ky) (l : List Ky) : hasG x l = true ↔ x ∈ l := by
 unfold hasG
 rw [List.any_eq_true]
 exact ⟨fun ⟨y, h, e⟩ => (of_decide_eq_true e) ▸ h, fun h => ⟨x, h, by simp⟩⟩
theorem hasG_next {x y : Ky} {l : List Ky} {k : Nat} (h : l[k]? = some y) : hasG x (l.take (k + 1)) = (hasG x (l.take k) || decide (y = x)) := by
 unfold hasG
 rw [List.take_add_one, h, List.any_append]
 simp
theorem ddK_had {l : List Ky} {y : Ky} (h : hasG y (ddK l) = true) : ddK (l ++ [y]) = ddK l := by
 rw [ddK_snoc, if_pos ((ddK_mem y l).1 ((hasG_iff y _).1 h))]
theorem ddK_not {l : List Ky} {y : Ky} (h : hasG y (ddK l) = false) : ddK (l ++ [y]) = ddK l ++ [y] := by
 rw [ddK_snoc, if_neg (fun h' => by rw [(hasG_iff y _).2 ((ddK_mem y l).2 h')] at h; cases h)]
theorem take_snocG {l : List Ky} {k : Nat} {y : Ky} (p : List Ky) (h : l[k]? = some y) : p ++ l.take (k + 1) = (p ++ l.take k) ++ [y] := by
 rw [List.take_add_one, h, List.append_assoc]; rfl
def prG (r s : List Ky) (j : Nat) : List Ky := if j = 0 then [] else if j = 1 then r else r ++ s
theorem rdecl_any (W : World) (rv sv : Value) (r s : List Ky) (hr : KeysAt W rv r) (hs : KeysAt W sv s) (hrl : r.length + s.length ≤ 50000) :
  Calls Tryd.prog 34 #[.agg #[rv, sv]] W fun e w' => e = .returned (.int .i64 (declN r s : Int)) ∧ Below W.heap.size W w' := by
 have hmx : Tryd.prog.follows .mixedOrders = true := by kernel_rfl
 have HD := hid (show costKs (ddK (prG r s 2)) = declN r s from rfl)
 obtain ⟨fin, hfin⟩ : ∃ fin, declN r s = fin := ⟨_, rfl⟩
 rw [hfin] at HD ⊢
 clear hfin
 obtain ⟨ra, rc, rfl, hr1, hr2⟩ := hr.shape
 obtain ⟨sa, sc, rfl, hs1, hs2⟩ := hs.shape
 obtain ⟨rn, hrn⟩ : ∃ n, r.length = n := ⟨_, rfl⟩
 obtain ⟨sn, hsn⟩ : ∃ n, s.length = n := ⟨_, rfl⟩
 rw [hrn, hsn] at hrl
 rw [hrn] at hr hr1 ⊢
 rw [hsn] at hs hs1 ⊢
 have hB := Has.new W 30 #[.slice ra rn rc, .slice sa sn sc]
 have c0 := hB.cell 0 _ rfl
 have c1 := hB.cell 1 _ rfl
 have hP := Has.new (W.alloc (.cells #[.slice ra rn rc, .slice sa sn sc] 30)) 28 #[.slice ra rn rc, .slice sa sn sc]
 simp only [World.size_alloc] at hP
 have hq0 := (newA W (.cells #[.slice ra rn rc, .slice sa sn sc] 30)).alloc (by simp) (.cells #[.slice ra rn rc, .slice sa sn sc] 28)
 obtain ⟨V, hV⟩ : ∃ V, (W.alloc (.cells #[.slice ra rn rc, .slice sa sn sc] 30)).alloc (.cells #[.slice ra rn rc, .slice sa sn sc] 28) = V := ⟨_, rfl⟩
 rw [hV] at hP hq0
 have Q := hid hq0
 have HR := hid (hr.later hq0)
 have HS := hid (hs.later hq0)
 have HP := hid hP
 have HJ := hid (show ∀ j, j < 2 → ∃ (p m : List Ky) (ma : Option Addr) (mn mc : Nat), (∀ X, Below V.heap.size V X → X.cell? ⟨W.heap.size + 1, j, none⟩ = some (.slice ma mn mc)) ∧ KeysAt V (.slice ma mn mc) m ∧ m.length = mn ∧ prG r s j = p ∧ prG r s (j + 1) = p ++ m ∧ p.length + mn ≤ 50000 ∧ mn ≤ mc ∧ mc ≤ 9223372036854775807 from fun j hj => by
  have h : j = 0 ∨ j = 1 := by omega
  rcases h with rfl | rfl
  ·exact ⟨[], r, ra, rn, rc, fun X hX => (HP.out.later hX).cell 0 _ rfl, HR.out, hrn, rfl, by simp [prG], by simp; omega, hr1, hr2⟩
  ·exact ⟨r, s, sa, sn, sc, fun X hX => (HP.out.later hX).cell 1 _ rfl, HS.out, hsn, rfl, by simp [prG], by omega, hs1, hs2⟩)
 have HOKP := hid (show ∀ (j : Nat) (x : Ky), x ∈ prG r s j → KyOk x from fun j x hx => by
  unfold prG at hx
  split at hx
  ·simp at hx
  ·split at hx
   ·exact HR.out.all x hx
   ·rcases List.mem_append.1 hx with h | h
    ·exact HR.out.all x h
    ·exact HS.out.all x h)
 clear hr hs hr1 hr2 hs1 hs2 hrl hrn hsn hB hP hq0 HR HS HP
 go_enter Tryd.func34, Tryd.ntmps34
 go_wp2_with fail
 clear hV c0 c1
 go_loopw [3, 4, 16] (fun ov nv jv wr => ∃ j : Nat, j ≤ 2 ∧ jv = .int .i64 (j : Int) ∧ KRow wr V.heap.size ov (ddK (prG r s j)) ∧ nv = .int .i64 (costKs (ddK (prG r s j)) : Int) ∧ Below V.heap.size V wr) (fun _ _ jv _ => 2 - (intOf jv).toNat)
 case atStart => exact ⟨0, by omega, rfl, KRow.nil _ _, rfl, Below.refl _ _⟩
 case round =>
  obtain ⟨j, hj2, rfl, hrow, rfl, hq⟩ := hrel
  obtain ⟨ov, hov⟩ : ∃ ov, ov = u3 := ⟨_, rfl⟩
  subst hov
  have HQ := hid hq
  have HROW := hid hrow
  clear hq hrow
  by_cases hj : j < 2
  ·have hjI : (j : Int) < 2 := by omega
   have hj0 : (0 : Int) ≤ (j : Int) := by omega
   obtain ⟨p, m, ma, mn, mc, hc, hk, hml, e1, e2, hle, hmc, hmx2⟩ := HJ.out j hj
   rw [e1] at HROW ⊢
   have HE2 := hid e2
   have HKM := hid (fun (X : World) (hX : Below V.heap.size V X) => hk.later hX)
   have HML := hid hml
   have HOKA := hid (show ∀ (x : Ky) (i : Nat), x ∈ ddK (p ++ m.take i) → KyOk x from fun x i hx => HOKP.out (j + 1) x (by
    rw [e2]
    rcases List.mem_append.1 ((ddK_mem _ _).1 hx) with h | h
    ·exact List.mem_append.2 (.inl h)
    ·exact List.mem_append.2 (.inr (List.mem_of_mem_take h))))
   have HLE := hid hle
   have HMC := hid (And.intro hmc hmx2)
   have HJ2 := hid hj
   have c := hc _ HQ.out
   clear hc hk hml e1 e2 hle hj2 hj hmc hmx2
   obtain ⟨v0, hv0⟩ : ∃ v, costKs (ddK p) = v := ⟨_, rfl⟩
   rw [hv0]
   have HV0 := hid hv0
   clear hv0
   go_wp2_with fail
   clear c
   go_loopw [3, 4, 7] (fun ov nv iv wq => ∃ i : Nat, i ≤ mn ∧ iv = .int .i64 (i : Int) ∧ KRow wq V.heap.size ov (ddK (p ++ m.take i)) ∧ nv = .int .i64 (costKs (ddK (p ++ m.take i)) : Int) ∧ Below V.heap.size V wq) (fun _ _ iv _ => mn - (intOf iv).toNat)
   case atStart => exact ⟨0, by omega, rfl, by rw [List.take_zero, List.append_nil]; exact HROW.out, by rw [List.take_zero, List.append_nil, HV0.out], HQ.out⟩
   case round =>
    obtain ⟨i, him, rfl, hrow, rfl, hq⟩ := hrel
    clear HROW HQ
    obtain ⟨ow, how⟩ : ∃ ow, ow = u3 := ⟨_, rfl⟩
    subst how
    obtain ⟨w0, hw0⟩ : ∃ w0, w0 = wr := ⟨_, rfl⟩
    subst hw0
    have HQ := hid hq
    have HROW := hid hrow
    clear hq hrow
    have hi0 : (0 : Int) ≤ (i : Int) := by omega
    have hib : (i : Int) ≤ 9223372036854775806 := by have := HLE.out; omega
    by_cases hin : i < mn
    ·have hinI : (i : Int) < (mn : Int) := by omega
     obtain ⟨y, hy⟩ : ∃ y, m[i]? = some y := ⟨_, List.getElem?_eq_getElem (by have := HML.out; omega)⟩
     obtain ⟨b, rfl, ay⟩ := (HKM.out _ HQ.out).at hy
     have HYA := hid (fun (X : World) (hX : Below V.heap.size V X) => (show KyIn X (b.add (i * 25)) y from by
      obtain ⟨b', e, h⟩ := (HKM.out X hX).at hy
      injection e with e
      subst e
      exact h))
     have HYO := hid ((HKM.out _ HQ.out).ok hy)
     have HTK := hid (take_snocG p hy)
     have hdl := ddK_len (p ++ m.take i)
     have hcl := costKs_le (ddK (p ++ m.take i))
     have hdn : (ddK (p ++ m.take i)).length ≤ 50000 := by
      rw [List.length_append] at hdl
      have := List.length_take_le i m
      have := HLE.out
      omega
     obtain ⟨q, hqq⟩ : ∃ q, p ++ m.take i = q := ⟨_, rfl⟩
     rw [hqq] at HTK HROW hdl hcl hdn ⊢
     have HAD := hid (fun h => @ddK_had q y h)
     have HNT := hid (fun h => @ddK_not q y h)
     obtain ⟨d, hd⟩ : ∃ d, ddK q = d := ⟨_, rfl⟩
     rw [hd] at HROW HAD HNT hcl hdn ⊢
     have HOKD := hid (show ∀ x ∈ d, KyOk x from fun x hx => HOKA.out x i (by rw [hqq, hd]; exact hx))
     obtain ⟨n3, hn3⟩ : ∃ n, d.length = n := ⟨_, rfl⟩
     have HN3 := hid hn3
     rw [hn3] at hcl hdn
     have hKR := HROW.out.keys HOKD.out
     have HKR := hid hKR
     obtain ⟨da, dc, rfl, hd1, hd2⟩ := hKR.shape
     rw [hn3] at HKR HROW hd1 ⊢
     obtain ⟨v, hv⟩ : ∃ v, costKs d = v := ⟨_, rfl⟩
     rw [hv] at hcl ⊢
     have HV := hid hv
     have v0' : (0 : Int) ≤ (v : Int) := by omega
     have v1' : (v : Int) ≤ 120000000 := by omega
     have HB3 := hid (And.intro hdn hin)
     have HLO := hid (And.intro hd1 hd2)
     clear hqq hd hn3 hv hdl hcl hdn hd1 hd2 hKR ay hy him hin
     go_wp2_with fail
     go_loopw [8, 9] (fun hv kv wz => ∃ k : Nat, k ≤ n3 ∧ kv = .int .i64 (k : Int) ∧ hv = .bool (hasG y (d.take k)) ∧ Below w0.heap.size w0 wz) (fun _ kv _ => n3 - (intOf kv).toNat)
     case atStart => exact ⟨0, by omega, rfl, rfl, Below.refl _ _⟩
     case round =>
      obtain ⟨k, hkn, rfl, rfl, hq⟩ := hrel
      have HQ3 := hid hq
      have HK := hid hkn
      obtain ⟨V1, hV1⟩ : ∃ V1, V1 = wr := ⟨_, rfl⟩
      subst hV1
      clear hq
      have hk0 : (0 : Int) ≤ (k : Int) := by omega
      have hkb : (k : Int) ≤ 9223372036854775806 := by have := HB3.out; omega
      by_cases hkn1 : k < n3
      ·have hknI : (k : Int) < (n3 : Int) := by omega
       obtain ⟨z, hz⟩ : ∃ z, d[k]? = some z := ⟨_, List.getElem?_eq_getElem (by have := HN3.out; omega)⟩
       have HNX := hid (hasG_next (x := y) hz)
       obtain ⟨bd, rfl, az⟩ := (HKR.out.later HQ3.out).at hz
       have LZ := hid (show ∀ x : World, Grows V1 x → (loadVar 58 (bd.add (k * 25))).run Tryd.prog x = .ok (.agg (kyC z)) x from fun x hx => by obtain ⟨q, rfl⟩ := hx; exact (az.later q.below).load)
       have ay := HYA.out _ (HQ.out.trans (HQ3.out.mono HQ.out.size))
       have LY := hid (show ∀ x : World, Grows V1 x → (loadVar 58 (b.add (i * 25))).run Tryd.prog x = .ok (.agg (kyC y)) x from fun x hx => by obtain ⟨q, rfl⟩ := hx; exact (ay.later q.below).load)
       have E := fun w : World => eqKey z y (HKR.out.ok hz) HYO.out w
       have HKK := hid hkn1
       clear hkn1 hkn ay az hz
       obtain ⟨bt, hbt⟩ : ∃ bt, hasG y (d.take k) = bt := ⟨_, rfl⟩
       obtain ⟨et, het⟩ : ∃ et, decide (z = y) = et := ⟨_, rfl⟩
       rw [hbt] at HNX ⊢
       rw [het] at HNX E
       clear hbt het
       generalize kyC y = cy at *
       generalize kyC z = cz at *
       cases bt
       all_goals (
        go_wp2_with fail
        refine wp_region_quietL (C := Grows V1) hmx (by kernel_rfl) (grows_refl V1) ?_
        repeat (first | (with_reducible refine wpQuiet_load rfl 58 _ rfl _ rfl _ LZ.out ?_; simp only [Act.put, sT, sS, sZ]) | (with_reducible refine wpQuiet_load rfl 58 _ rfl _ rfl _ LY.out ?_; simp only [Act.put, sT, sS, sZ]) | (go_big_quiet_step (fail)))
        refine wpQuiet_nil ?_
        rintro _ ⟨x, rfl⟩
        have HE := hid (HQ3.out.trans (x.below.mono HQ3.out.size))
        clear LZ LY
        go_wp2_with fail
        go_roundw
        case rel => exact ⟨k + 1, by have := HKK.out; omega, by simp, by rw [HNX.out]; simp, HE.out⟩
        case measure => have := HKK.out; simp [intOf]; omega)
      ·obtain rfl : k = n3 := by have := HK.out; omega
       have hnn : ¬ (k : Int) < (k : Int) := by omega
       rw [show d.take k = d from List.take_of_length_le (by have := HN3.out; omega)]
       obtain ⟨bt, hbt⟩ : ∃ bt, hasG y d = bt := ⟨_, rfl⟩
       rw [hbt] at HAD HNT ⊢
       clear hbt hkn1 hkn
       have HQN := hid (HQ.out.trans (HQ3.out.mono HQ.out.size))
       have R0 := hid (HROW.out.later HQ3.out)
       cases bt with
       | true =>
        have e := HAD.out rfl
        have HX := hid (show ddK (p ++ m.take (i + 1)) = d by rw [HTK.out]; exact e)
        clear e
        go_wp2_with fail
        go_roundw
        case rel => exact ⟨i + 1, by have := HB3.out; omega, by simp, by rw [HX.out]; exact R0.out, by rw [HX.out, HV.out], HQN.out⟩
        case measure => have := HB3.out; simp [intOf]; omega
       | false =>
        have e := HNT.out rfl
        have HX := hid (show ddK (p ++ m.take (i + 1)) = d ++ [y] by rw [HTK.out]; exact e)
        clear e
        have LY := hid (show (loadVar 58 (b.add (i * 25))).run Tryd.prog V1 = .ok (.agg (kyC y)) V1 from (HYA.out _ HQN.out).load)
        obtain ⟨v2, A2, r2, k2, b2⟩ := push_keyG V1 V.heap.size _ d R0.out HQN.out.size (by have := HB3.out; have := HN3.out; omega) y HYO.out
        have HE2 := hid (HQN.out.trans b2)
        have HKF := hid k2
        have R2 := hid r2
        have HCX := hid (show costKs (d ++ [y]) = v + costK y by rw [costKs_app, HV.out]; rfl)
        have cy : A2.cell? ⟨(b.add (i * 25)).block, (b.add (i * 25)).off + 20, none⟩ = some (.bool y.slot) := HYA.out _ HE2.out 20 (.bool y.slot) rfl
        unfold costK at HCX
        obtain ⟨sl, hsl⟩ : ∃ sl, y.slot = sl := ⟨_, rfl⟩
        rw [hsl] at cy HCX
        clear hsl k2 b2 r2
        cases sl
        all_goals (
         go_wp2_with (first | (refine wpList_load_known rfl _ (.tmp 48) rfl _ rfl _ LY.out ?_) | (refine wpList_build_k1G rfl (.tmp 49) rfl y rfl ?_) | (at_builtin; refine wpList_append_runK rfl (.tmp 45) (.tmp 50) 28 rfl _ _ _ rfl rfl R2.out ?_))
         go_roundw
         case rel => exact ⟨i + 1, by have := HB3.out; omega, by simp, by rw [HX.out]; exact HKF.out, by rw [HX.out, HCX.out]; simp, HE2.out⟩
         case measure => have := HB3.out; simp [intOf]; omega)
    ·obtain rfl : i = mn := by omega
     have hnn : ¬ (i : Int) < (i : Int) := by omega
     have ht : m.take i = m := List.take_of_length_le (by have := HML.out; omega)
     rw [ht] at HROW ⊢
     rw [← HE2.out] at HROW ⊢
     clear ht hin him
     obtain ⟨v, hv⟩ : ∃ v, costKs (ddK (prG r s (j + 1))) = v := ⟨_, rfl⟩
     rw [hv]
     have HV := hid hv
     clear hv
     go_wp2_with fail
     go_roundw
     case rel => exact ⟨j + 1, by have := HJ2.out; omega, by simp, HROW.out, by rw [HV.out], HQ.out⟩
     case measure => have := HJ2.out; simp [intOf]; omega
  ·obtain rfl : j = 2 := by omega
   rw [HD.out]
   go_wp2_with fail
   go_ret
   exact ⟨rfl, Q.out.trans (HQ.out.mono Q.out.size)⟩
theorem results_setsB {fn : Func} {t u : Tmp} {tmps : Array Value} {W : World} {B : Nat} {x y : Value} (h : fn.results = #[ResultVar.cell t 30, ResultVar.tmp u]) (ht : tmps.getD t undef = .pointer (some ⟨B, 0, none⟩)) (hA : Has W B 30 #[x, y]) :
  (results fn tmps).run Tryd.prog W = .ok (.tuple #[.agg #[x, y], tmps.getD u undef]) W := by
 have e0 := hA.cell 0 _ rfl
 have e1 := hA.cell 1 _ rfl
 simp at ht
 simp [results, h, ht, go_sem, e0, e1]
theorem results_sets {fn : Func} {t : Tmp} {tmps : Array Value} {W : World} {B : Nat} {x y : Value} (h : fn.results = #[ResultVar.cell t 30]) (ht : tmps.getD t undef = .pointer (some ⟨B, 0, none⟩)) (hA : Has W B 30 #[x, y]) :
  (results fn tmps).run Tryd.prog W = .ok (.agg #[x, y]) W := by
 have e0 := hA.cell 0 _ rfl
 have e1 := hA.cell 1 _ rfl
 simp at ht
 simp [results, h, ht, go_sem, e0, e1]
theorem KeysAt.away {W : World} {v : Value} {l : List Ky} (h : KeysAt W v l) {B : Nat} {t : TypeId} {a b : Option Addr} {n c m d : Nat} (hB : Has W B t #[.slice a n c, .slice b m d]) (k : Nat) (u : Value) : KeysAt (W.setCell ⟨B, k, none⟩ u) v l := by
 obtain ⟨a', cap, h1, h2, h3, h4, h5⟩ := h
 refine ⟨a', cap, h1, h2, h3, h4, fun i x hx => ?_⟩
 obtain ⟨p, e, hc⟩ := h5 i x hx
 refine ⟨p, e, fun j y hj => ?_⟩
 have h6 := hc j y hj
 generalize (p.add (i * 25)).add j = q at *
 by_cases hq : q.block = B
 ·exfalso
  have hy := List.mem_of_getElem? hj
  have hcl : W.heap[B]? = some (.cells #[.slice a n c, .slice b m d] t (0, 0)) := hB
  unfold World.cell? at h6
  rw [hq, hcl] at h6
  have hm : y = .slice a n c ∨ y = .slice b m d := by
   have h7 : q.spot = none ∧ [Value.slice a n c, .slice b m d][q.off]? = some y := by simpa using h6
   have := List.mem_of_getElem? h7.2
   simpa using this
  unfold kyL adL at hy
  rcases List.mem_append.1 hy with hy | hy
  ·obtain ⟨i, _, rfl⟩ := List.mem_map.1 hy
   rcases hm with hm | hm <;> cases hm
  ·simp only [List.mem_cons, List.not_mem_nil, or_false] at hy
   rcases hy with rfl | rfl | rfl | rfl | rfl <;> rcases hm with hm | hm <;> cases hm
 ·exact (World.cell?_of_block (Below.heap_setCell W ⟨B, k, none⟩ u q.block hq)).trans h6
structure SetsP (W : World) (r s : List Ky) (c : Nat) (e : Ending) (w' : World) : Prop where
 ex : ∃ x y, e = .returned (.tuple #[.agg #[x, y], .int .i64 (c : Int)]) ∧ KeysAt w' x r ∧ KeysAt w' y s ∧ Below W.heap.size W w'

end
section
open Go Go.RowKit Go.Shelf
attribute [local go_sem] Oper.semAt_some Grows wide_fn

end
section
open Go Go.RowKit
attribute [local go_sem] Oper.semAt_some Grows wide_fn
theorem SetsAt.shapes {W : World} {v : Value} {r s : List Ky} (h : SetsAt W v r s) : ∃ a c b d, v = .agg #[.slice a r.length c, .slice b s.length d] ∧ KeysAt W (.slice a r.length c) r ∧ KeysAt W (.slice b s.length d) s := by
 obtain ⟨x, y, e, h1, h2⟩ := h.ex
 obtain ⟨a, c, rfl, _⟩ := h1.shape
 obtain ⟨b, d, rfl, _⟩ := h2.shape
 exact ⟨a, c, b, d, e, h1, h2⟩

theorem fill_k1 (x : Ky) (cells : Array Value) (h : cells.size = 25) : Instr.fill (fun i => some (i * 25, 25)) cells [(0, .agg (kyC x))] = some (flatKy [x]).toArray := by
 have := Great.fill_whole (s := 25) (by decide) [.agg (kyC x)] cells (fun v hv => by
  simp at hv
  subst hv
  exact kyC_size x) (by simp [h])
 simpa [Value.cells, flatKy, kyC] using this
section
variable {ops : Array Oper} {rest : List Oper} {o : Oper} {a : Act} {w : World} {Q : Exit → Act → World → Prop}
theorem wpList_build_k1 (hg : o.guard = none) (y : Operand) (ho : o.op = .buildSlice 28 1 #[(0, y)]) (x : Ky) (hy : a.eval y = .agg (kyC x))
  (h : wpList Tryd.prog ops Q rest (a.put o.dst (.slice (some ⟨w.heap.size, 0, none⟩) 1 1)) (w.alloc (.cells (flatKy [x]).toArray 58))) : wpList Tryd.prog ops Q (o :: rest) a w := by
 obtain ⟨i, z, hi, hz, hzs, hsz, hby⟩ := infoKz_of
 refine wpList_buildSlice hg 28 58 1 #[(0, y)] ho (flatKy [x]).toArray i z Tryd.underlying28 hi hz (by rw [hsz]; decide) (by rw [hsz]; decide) ?_ h
 rw [hsz]
 simp only [List.map_toArray, List.map_cons, List.map_nil, hy]
 exact fill_k1 x _ (by simp)
end
theorem keys_made (w : World) (l : List Ky) (h : ∀ x ∈ l, KyOk x) (hl : l.length ≤ 100000) : KeysAt (w.alloc (.cells (flatKy l).toArray 58)) (.slice (some ⟨w.heap.size, 0, none⟩) l.length l.length) l := by
 refine ⟨some ⟨w.heap.size, 0, none⟩, l.length, rfl, Nat.le_refl _, by omega, h, fun i x hx => ⟨_, rfl, fun j u hj => ?_⟩⟩
 have hj25 : j < 25 := by have := (List.getElem?_eq_some_iff.1 hj).1; rwa [kyL_len] at this
 rw [Addr.add_add, Addr.add_mid, Nat.zero_add]
 exact (Has.new w 58 (flatKy l).toArray).cell _ _ (by simpa using (flatKy_at l i x j hx hj25).trans hj)
def kl : Ky := ⟨256 ^ 19, false, 0⟩
def k1 : Ky := ⟨0, false, 1⟩

theorem built_at0 (x0 x1 x2 x3 x4 x5 x6 x7 x8 x9 x10 x11 x12 x13 x14 x15 x16 x17 x18 x19 : Value) : Tryd.prog.built 58 [(0, .agg #[x0, x1, x2, x3, x4, x5, x6, x7, x8, x9, x10, x11, x12, x13, x14, x15, x16, x17, x18, x19])] = some #[x0, x1, x2, x3, x4, x5, x6, x7, x8, x9, x10, x11, x12, x13, x14, x15, x16, x17, x18, x19, .bool false, .int .u64 0, .int .u64 0, .int .u64 0, .int .u64 0] := by kernel_rfl
theorem built_at (n : Nat) : Tryd.prog.built 58 [(0, .agg (adC n))] = some (kyC ⟨n, false, 0⟩) := by
 have h := built_at0 (.int .u8 ((adB n 0 : Nat) : Int)) (.int .u8 ((adB n 1 : Nat) : Int)) (.int .u8 ((adB n 2 : Nat) : Int)) (.int .u8 ((adB n 3 : Nat) : Int)) (.int .u8 ((adB n 4 : Nat) : Int)) (.int .u8 ((adB n 5 : Nat) : Int)) (.int .u8 ((adB n 6 : Nat) : Int)) (.int .u8 ((adB n 7 : Nat) : Int)) (.int .u8 ((adB n 8 : Nat) : Int)) (.int .u8 ((adB n 9 : Nat) : Int)) (.int .u8 ((adB n 10 : Nat) : Int)) (.int .u8 ((adB n 11 : Nat) : Int)) (.int .u8 ((adB n 12 : Nat) : Int)) (.int .u8 ((adB n 13 : Nat) : Int)) (.int .u8 ((adB n 14 : Nat) : Int)) (.int .u8 ((adB n 15 : Nat) : Int)) (.int .u8 ((adB n 16 : Nat) : Int)) (.int .u8 ((adB n 17 : Nat) : Int)) (.int .u8 ((adB n 18 : Nat) : Int)) (.int .u8 ((adB n 19 : Nat) : Int))
 have e1 : adC n = #[.int .u8 ((adB n 0 : Nat) : Int), .int .u8 ((adB n 1 : Nat) : Int), .int .u8 ((adB n 2 : Nat) : Int), .int .u8 ((adB n 3 : Nat) : Int), .int .u8 ((adB n 4 : Nat) : Int), .int .u8 ((adB n 5 : Nat) : Int), .int .u8 ((adB n 6 : Nat) : Int), .int .u8 ((adB n 7 : Nat) : Int), .int .u8 ((adB n 8 : Nat) : Int), .int .u8 ((adB n 9 : Nat) : Int), .int .u8 ((adB n 10 : Nat) : Int), .int .u8 ((adB n 11 : Nat) : Int), .int .u8 ((adB n 12 : Nat) : Int), .int .u8 ((adB n 13 : Nat) : Int), .int .u8 ((adB n 14 : Nat) : Int), .int .u8 ((adB n 15 : Nat) : Int), .int .u8 ((adB n 16 : Nat) : Int), .int .u8 ((adB n 17 : Nat) : Int), .int .u8 ((adB n 18 : Nat) : Int), .int .u8 ((adB n 19 : Nat) : Int)] := rfl
 have e2 : kyC ⟨n, false, 0⟩ = #[.int .u8 ((adB n 0 : Nat) : Int), .int .u8 ((adB n 1 : Nat) : Int), .int .u8 ((adB n 2 : Nat) : Int), .int .u8 ((adB n 3 : Nat) : Int), .int .u8 ((adB n 4 : Nat) : Int), .int .u8 ((adB n 5 : Nat) : Int), .int .u8 ((adB n 6 : Nat) : Int), .int .u8 ((adB n 7 : Nat) : Int), .int .u8 ((adB n 8 : Nat) : Int), .int .u8 ((adB n 9 : Nat) : Int), .int .u8 ((adB n 10 : Nat) : Int), .int .u8 ((adB n 11 : Nat) : Int), .int .u8 ((adB n 12 : Nat) : Int), .int .u8 ((adB n 13 : Nat) : Int), .int .u8 ((adB n 14 : Nat) : Int), .int .u8 ((adB n 15 : Nat) : Int), .int .u8 ((adB n 16 : Nat) : Int), .int .u8 ((adB n 17 : Nat) : Int), .int .u8 ((adB n 18 : Nat) : Int), .int .u8 ((adB n 19 : Nat) : Int), .bool false, .int .u64 0, .int .u64 0, .int .u64 0, .int .u64 0] := by kernel_rfl
 rw [e1, e2]
 exact h
theorem wpList_build_at {ops : Array Oper} {rest : List Oper} {o : Oper} {a : Act} {w : World} {Q : Exit → Act → World → Prop} (hw : Region.wanted o (yielded ops a.tmps) = true) (y : Operand) (ho : o.op = .build 58 #[(0, y)]) (ad cs : Array Value) (hb : Tryd.prog.built 58 [(0, .agg ad)] = some cs) (hy : a.eval y = .agg ad)
  (h : wpList Tryd.prog ops Q rest (a.put o.dst (.agg cs)) w) : wpList Tryd.prog ops Q (o :: rest) a w := by
 refine wpList_step fun K hK => ?_
 rw [if_pos hw]
 have e : Tryd.prog.built 58 (#[((0 : Nat), y)].map fun (i, x) => (i, a.eval x)).toList = some cs := by
  simp only [List.map_toArray, List.map_cons, List.map_nil, hy]
  exact hb
 refine wp_build 58 #[(0, y)] ho (by rw [e]; rfl) (hK _ _ ?_)
 rw [e]
 exact h
end
end Go.Proofs.YtlihnlkcgiopoaaDoor

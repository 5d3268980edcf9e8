/- Part. -/
import Derived.Shelf.SlSortCmp.NoneTotal
import Derived.Lib.QuietBelow
import Derived.Lib.SliceRun
import Derived.Deep.Upon
import Derived.Test.YtahjgllnfbejmaaG04
import Derived.Test.YtahjgllnfbejmaaG03
set_option maxRecDepth 100000
set_option maxHeartbeats 16000000
namespace Go.Proofs.Ytahjgllnfbejmaa
section
open Go Go.RowKit
attribute [local go_sem] Oper.semAt_some Grows wide_fn
def flatKy (l : List Ky) : List Value := l.flatMap kyL
theorem flatKy_length : ∀ (l : List Ky), (flatKy l).length = l.length * 25
 | [] => rfl
 | x :: l => by
  have := flatKy_length l
  simp only [flatKy, List.flatMap_cons, List.length_append, List.length_cons] at this ⊢
  rw [this, kyL_len]
  omega
theorem flatKy_at : ∀ (l : List Ky) (i : Nat) (x : Ky) (j : Nat), l[i]? = some x → j < 25 → (flatKy l)[i * 25 + j]? = (kyL x)[j]?
 | [], i, x, j, h, _ => by simp at h
 | y :: l, 0, x, j, h, hj => by
  simp at h
  subst h
  rw [show flatKy (y :: l) = kyL y ++ flatKy l from rfl, List.getElem?_append_left (by rw [kyL_len]; omega), Nat.zero_mul, Nat.zero_add]
 | y :: l, i + 1, x, j, h, hj => by
  rw [show flatKy (y :: l) = kyL y ++ flatKy l from rfl, List.getElem?_append_right (by rw [kyL_len]; omega), kyL_len, show (i + 1) * 25 + j - 25 = i * 25 + j by omega]
  exact flatKy_at l i x j (by simpa using h) hj
def KRow (W : World) (base : Nat) (v : Value) (l : List Ky) : Prop := W.ownsRow base 31 25 v l.length (flatKy l)
theorem KRow.keys {W : World} {base : Nat} {v : Value} {l : List Ky} (h : KRow W base v l) (hw : ∀ x ∈ l, KyOk x) : KeysAt W v l := by
 rcases h.2 with ⟨rfl, h0⟩ | ⟨g, cap, cur, rfl, hbg, hg', hnc, hcm, hcs, htake⟩
 ·have : l = [] := List.eq_nil_of_length_eq_zero h0
  subst this
  exact KeysAt.nil W
 ·refine ⟨some ⟨g, 0, none⟩, cap, rfl, hnc, by simpa [maxLen] using hcm, hw, fun i x hx => ⟨⟨g, 0, none⟩, rfl, fun j u hj => ?_⟩⟩
  have hj25 : j < 25 := by have := (List.getElem?_eq_some_iff.1 hj).1; rwa [kyL_len] at this
  rw [Addr.add_add]
  exact World.ownsRow.cells h (g := g) rfl _ _ ((flatKy_at l i x j hx hj25).trans hj)
theorem KRow.later {W X : World} {base : Nat} {v : Value} {l : List Ky} (h : KRow W base v l) (hb : Below W.heap.size W X) : KRow X base v l := by
 refine ⟨h.1, ?_⟩
 rcases h.2 with h0 | ⟨g, cap, cur, rfl, hbg, hg', hr⟩
 ·exact .inl h0
 ·exact .inr ⟨g, cap, cur, rfl, hbg, (hb.block g (Array.getElem?_eq_some_iff.1 hg').1).trans hg', hr⟩
theorem infoK : (Try.prog.info? 31).map (fun i => (i.zero, i.size, i.bytes)) = some (some (.agg #[.int .u8 0, .int .u8 0, .int .u8 0, .int .u8 0, .int .u8 0, .int .u8 0, .int .u8 0, .int .u8 0, .int .u8 0, .int .u8 0, .int .u8 0, .int .u8 0, .int .u8 0, .int .u8 0, .int .u8 0, .int .u8 0, .int .u8 0, .int .u8 0, .int .u8 0, .int .u8 0, .bool false, .int .u64 0, .int .u64 0, .int .u64 0, .int .u64 0]), 25, 56) := by kernel_rfl
theorem infoK_of : ∃ i, Try.prog.info? 31 = some i ∧ i.zero = some (.agg #[.int .u8 0, .int .u8 0, .int .u8 0, .int .u8 0, .int .u8 0, .int .u8 0, .int .u8 0, .int .u8 0, .int .u8 0, .int .u8 0, .int .u8 0, .int .u8 0, .int .u8 0, .int .u8 0, .int .u8 0, .int .u8 0, .int .u8 0, .int .u8 0, .int .u8 0, .int .u8 0, .bool false, .int .u64 0, .int .u64 0, .int .u64 0, .int .u64 0]) ∧ i.size = 25 ∧ i.bytes = 56 := by
 have h := infoK
 rcases hi : Try.prog.info? 31 with _ | i
 ·rw [hi] at h; cases h
 ·rw [hi] at h
  injection h with h
  simp only [Prod.mk.injEq] at h
  exact ⟨i, rfl, h.1, h.2.1, h.2.2⟩
theorem wpList_append_runK {P : Program} {w w' : World} {ops : Array Oper} {rest : List Oper} {o : Oper} {a : Act} {Q : Exit → Act → World → Prop}
  (hg : o.guard = none) (s x : Operand) (t : TypeId) (hop : o.op = Op.call { callee := Callee.builtin Builtin.append, args := #[s, x], argTypes := #[t, t] })
  (v x0 v' : Value) (hs : a.eval s = v) (hx : a.eval x = x0) (hr : (Builtin.append_ #[t, t] o.type #[v, x0]).run P w = .ok v' w')
  (hK : wpList P ops Q rest (a.put o.dst v') w') : wpList P ops Q (o :: rest) a w := by
 refine wpList_plain hg fun K hK' => ?_
 unfold Oper.wp execOp
 simp only [hop, resolve, invoke, builtin, Sem.run_bind, Sem.run_pure, Result.andThen_ok, List.map_toArray, List.map_cons, List.map_nil, hs, hx, hr]
 exact hK' _ _ hK
theorem copy_madeK (A : World) (sv : Value) (l : List Ky) (h : KeysAt A sv l) (hl : l.length ≤ 100000) :
  ∃ v' w', (Builtin.append_ #[22, 22] 22 #[.slice (some ⟨A.heap.size, 0, none⟩) 0 0, sv]).run Try.prog (A.alloc (.cells #[] 31)) = .ok v' w' ∧ KRow w' A.heap.size v' l ∧ Below A.heap.size A w' := by
 have hb0 := newA A (.cells #[] 31)
 have h0 := World.ownsRow_made (base := A.heap.size) (e := 31) (size := 25) A #[] 0 (Nat.le_refl _) (Nat.zero_le _) rfl
 replace h := h.later hb0
 obtain ⟨A1, hA1⟩ : ∃ A1, A.alloc (.cells #[] 31) = A1 := ⟨_, rfl⟩
 rw [hA1] at hb0 h0 h ⊢
 obtain ⟨a, cap, rfl, h2, h3, h4, h5⟩ := h
 obtain ⟨i, hi, hz, hsize, hby⟩ := infoK_of
 cases l with
 | nil =>
  refine ⟨_, _, run_append_nothing (P := Try.prog) A1 22 22 22 31 i Try.underlying22 hi (some ⟨A.heap.size, 0, none⟩) 0 0 (Nat.le_refl _) (.slice a 0 cap) ?_, h0, hb0⟩
  cases a with
  | none => exact Src.ofNil _ Try.underlying22 cap
  | some b => exact Src.ofSlice _ Try.underlying22 b 0 cap [] (by simp) (fun j u hj => by simp at hj) (fun u hu => by cases hu)
 | cons x r =>
  obtain ⟨b, rfl, _⟩ := h5 0 x rfl
  obtain ⟨v', w', hr, hown, hgr, hnb⟩ := run_append_src (P := Try.prog) A1 A.heap.size 22 22 22 31 i _ 25 56 Try.underlying22 hi hz hsize hby rfl (by decide) (.slice (some ⟨A.heap.size, 0, none⟩) 0 0) 0 [] h0 (.slice (some b) (x :: r).length cap) (x :: r).length (by simp) (flatKy (x :: r)) (by
   rw [hsize]
   refine Src.ofSlice _ Try.underlying22 b _ cap _ (flatKy_length _) (fun j u hj => ?_) (fun u hu => ?_)
   ·have hj8 : j < (x :: r).length * 25 := by
     have := (List.getElem?_eq_some_iff.1 hj).1
     rwa [flatKy_length] at this
    obtain ⟨y, hy⟩ : ∃ y, (x :: r)[j / 25]? = some y := ⟨_, List.getElem?_eq_getElem (by omega)⟩
    obtain ⟨b', hb', hc⟩ := h5 (j / 25) y hy
    injection hb' with hb'
    subst hb'
    have hf := flatKy_at (x :: r) (j / 25) y (j % 25) hy (by omega)
    rw [show j / 25 * 25 + j % 25 = j by omega, hj] at hf
    have h8 := hc (j % 25) u hf.symm
    rw [Addr.add_add, show j / 25 * 25 + j % 25 = j by omega] at h8
    exact h8
   ·obtain ⟨y, _, hy⟩ := List.mem_flatMap.1 hu
    exact kyL_one y u hy) (by omega) (by unfold maxLen; omega) hb0.size
  refine ⟨v', w', hr, ?_, ?_⟩
  ·unfold KRow
   rw [Nat.zero_add, List.nil_append] at hown
   exact hown
  ·exact hb0.grown hgr hb0.size (by intro k hk; simp [Value.ownBlock] at hk; omega)
theorem clone_keys (W : World) (sv : Value) (l : List Ky) (hs : KeysAt W sv l) (hl : l.length ≤ 100000) :
  Calls Try.prog 48 #[sv] W fun e w' => ∃ v', e = .returned v' ∧ KRow w' W.heap.size v' l ∧ Below W.heap.size W w' := by
 have q22 := fun (w : World) (a : Option Addr) (n c n' c' : Nat) => Lib.run_eql_slice_nil (P := Try.prog) w 22 _ a n c n' c' Try.underlying22
 have HS := hid hs
 obtain ⟨v', w', hr, hrow, hb⟩ := copy_madeK W sv l hs hl
 have HR := hid hrow
 have HB := hid hb
 clear hrow hb hl
 obtain ⟨a, cap, rfl, hnc, hcm⟩ := hs.shape
 cases a with
 | none =>
  have h0 : l = [] := by
   cases l with
   | nil => rfl
   | cons x r =>
    obtain ⟨b, e, _⟩ := hs.at (i := 0) (x := x) rfl
    cases e
  subst h0
  clear hr hs hnc hcm
  go_enter Try.func48, Try.ntmps48
  go_wp2_with fail
  go_ret
  exact ⟨_, rfl, World.ownsRow_nil _ _ _ _, Below.refl _ _⟩
 | some b =>
  obtain ⟨n, hn⟩ : ∃ n, l.length = n := ⟨_, rfl⟩
  rw [hn] at hr ⊢
  clear hs hnc hcm hn
  go_enter Try.func48, Try.ntmps48
  go_wp2_with (at_builtin; refine wpList_append_runK rfl (.tmp 5) (.tmp 6) 22 rfl _ _ _ rfl rfl hr ?_)
  go_ret
  exact ⟨_, rfl, HR.out, HB.out⟩
abbrev KyS : Type := { k : Ky // KyOk k }
instance kySInhabited : Inhabited KyS := ⟨⟨⟨0, false, 0⟩, ⟨by decide, by show W256 0; unfold W256; omega⟩⟩⟩
def encS (x : KyS) : List Value := kyL x.1
def cfS (x y : KyS) : Int := kcmp x.1 y.1
theorem ltS_true {x y : KyS} : ltOf cfS x y = true ↔ Kl x.1 y.1 := by unfold ltOf cfS Kl; exact decide_eq_true_iff
theorem ltS_false {x y : KyS} : ltOf cfS x y = false ↔ ¬ Kl x.1 y.1 := by rw [← ltS_true]; cases ltOf cfS x y <;> simp
theorem swoS : Sort.SWO (ltOf cfS) where
 irrefl x := ltS_false.2 (Kl.irrefl _)
 trans x y z h1 h2 := ltS_true.2 ((ltS_true.1 h1).trans (ltS_true.1 h2))
 ntrans x y z h1 h2 := ltS_false.2 (fun h => by
  have n1 := ltS_false.1 h1
  have n2 := ltS_false.1 h2
  rcases kcmp_tri x.1 y.1 with ⟨h, _⟩ | ⟨e, _⟩ | ⟨h', _⟩
  ·exact n1 h
  ·rw [e] at h; exact n2 h
  ·exact n2 (h'.trans h))
theorem grown_up {w w' : World} (h : Below w.heap.size w w') (hd : w.drawn ≤ w'.drawn) : ∃ q os', w' = Sort.grow (w.drewN q) os' := by
 obtain ⟨p, rfl⟩ := regrown_of_below h
 have hd' : w.drawn ≤ p.d := hd
 refine ⟨p.d - w.drawn, p.os, ?_⟩
 have e : w.drewN (p.d - w.drawn) = redrawn w p.d := by
  show ({ w with drawn := w.drawn + (p.d - w.drawn) } : World) = { w with drawn := p.d }
  rw [show w.drawn + (p.d - w.drawn) = p.d by omega]
 rw [e]
theorem cmpS (blk off size : Nat) (w : World) : CmpLays Try.prog 8 #[] encS 25 cfS blk off size w := fun m os dk _ x y => by
 have h := calls_up (korder_any (sortWorldK encS 25 w blk off m dk os) x.1 y.1 x.2 y.2)
 exact h.mono fun e w' ⟨⟨he, hb⟩, hd⟩ => ⟨he, grown_up hb (by
  rcases hd with hd | hd
  ·rw [he] at hd; cases hd
  ·exact hd)⟩
theorem flatK_list (d : Array KyS) : (Sort.flatK encS 25 d).toList = flatKy (d.toList.map (·.1)) := by
 apply List.ext_getElem?
 intro t
 by_cases ht : t < d.size * 25
 ·have hq : t / 25 < d.size := by omega
  have h1 := flatKy_at (d.toList.map (·.1)) (t / 25) d[t / 25].1 (t % 25) (by simp [hq]) (Nat.mod_lt _ (by decide))
  rw [show t / 25 * 25 + t % 25 = t by omega] at h1
  rw [h1]
  have h2 := Sort.get_flatK encS 25 d t ht
  have hsz : t < (Sort.flatK encS 25 d).size := by rw [Sort.size_flatK]; exact ht
  rw [getElem!_pos _ t hsz, getElem!_pos d (t / 25) hq] at h2
  have h3 : t % 25 < (encS d[t / 25]).length := by unfold encS; rw [kyL_len]; exact Nat.mod_lt _ (by decide)
  rw [getElem!_pos _ (t % 25) h3] at h2
  rw [Array.getElem?_toList, Array.getElem?_eq_getElem hsz, h2]
  exact (List.getElem?_eq_getElem h3).symm
 ·rw [Array.getElem?_toList, Array.getElem?_eq_none (by rw [Sort.size_flatK]; omega), List.getElem?_eq_none (by rw [flatKy_length]; simp; omega)]
theorem putCells_take (F cur : Array Value) (h : F.size ≤ cur.size) : (Sort.putCells id 0 F cur).toList.take F.size = F.toList := by
 apply List.ext_getElem?
 intro t
 by_cases ht : t < F.size
 ·rw [List.getElem?_take, if_pos ht, Array.getElem?_toList, Array.getElem?_toList]
  unfold Sort.putCells
  rw [Array.getElem?_mapIdx, Array.getElem?_eq_getElem (show t < cur.size by omega), Option.map_some, if_pos ⟨Nat.zero_le _, by omega⟩, Nat.sub_zero, getElem!_pos F t ht, Array.getElem?_eq_getElem ht]
  rfl
 ·rw [List.getElem?_eq_none (by simp; omega), List.getElem?_eq_none (by simp; omega)]
theorem sortWorld_heap (W : World) (g m : Nat) (F cur : Array Value) (t : TypeId) (os : Array Obj) (hg : W.heap[g]? = some (.cells cur t (0, 0))) :
  (Sort.grow (Sort.putRow id (Sort.ahead W m) g 0 F) os).heap[g]? = some (.cells (Sort.putCells id 0 F cur) t (0, 0)) ∧ Below g W (Sort.grow (Sort.putRow id (Sort.ahead W m) g 0 F) os) := by
 have hlt := (Array.getElem?_eq_some_iff.1 hg).1
 have he := (Array.getElem?_eq_some_iff.1 hg).2
 unfold Sort.grow Sort.putRow Sort.mapBlock Sort.ahead
 refine ⟨?_, ⟨rfl, rfl, rfl, by simp, fun k hk => ?_⟩⟩
 ·simp only
  rw [Array.getElem?_append_left (by rw [Array.size_modify]; exact hlt), Array.getElem?_eq_getElem (by rw [Array.size_modify]; exact hlt), Array.getElem_modify_self, he]
  rfl
 ·simp only
  rw [Array.getElem?_append_left (by rw [Array.size_modify]; omega), Array.getElem?_modify, if_neg (by omega)]
def Kso (l : List Ky) : Prop := ∀ (i j : Nat) (x y : Ky), i < j → l[i]? = some x → l[j]? = some y → ¬ Kl y x
theorem sort_keys (W : World) (base : Nat) (v : Value) (l : List Ky) (hr : KRow W base v l) (hok : ∀ x ∈ l, KyOk x) (hl : l.length ≤ 100000) (hbase : base ≤ W.heap.size) :
  Calls Try.prog 49 #[v, .func (.func 8) #[] #[]] W fun e w' => e = .returned (.tuple #[]) ∧ ∃ l', KRow w' base v l' ∧ l'.Perm l ∧ Kso l' ∧ Below base W w' := by
 have none_ : ∀ p cap, v = .slice p 0 cap → l = [] → Calls Try.prog 49 #[v, .func (.func 8) #[] #[]] W fun e w' => e = .returned (.tuple #[]) ∧ ∃ l', KRow w' base v l' ∧ l'.Perm l ∧ Kso l' ∧ Below base W w' := fun p cap hv h0 => by
  subst hv
  subst h0
  exact (AnyF.slices_SortFunc_none laySort p cap _ W).mono fun _ _ ⟨he, hw⟩ => by subst hw; exact ⟨he, [], hr, List.Perm.refl _, (fun i j x y _ h => by simp at h), Below.refl _ _⟩
 rcases hr.2 with ⟨hv, h0⟩ | ⟨g, cap, cur, hv, hbg, hg', hnc, hcm, hcs, htake⟩
 ·exact none_ none 0 hv (List.eq_nil_of_length_eq_zero h0)
 ·obtain ⟨d, hd⟩ : ∃ d : Array KyS, d.toList.map (·.1) = l := ⟨(l.pmap (fun x h => (⟨x, h⟩ : KyS)) hok).toArray, by simp [List.map_pmap]⟩
  have hds : d.size = l.length := by rw [← hd]; simp
  have hF := flatK_list d
  rw [hd] at hF
  have hH : Sort.HoldsK encS 25 W g 0 d := fun t ht => by
   rw [Sort.size_flatK] at ht
   have hlt : t < cur.size := by rw [hcs]; omega
   have hts : t < (Sort.flatK encS 25 d).size := by rw [Sort.size_flatK]; exact ht
   refine ⟨?_, by simp [World.frozen?, hg']⟩
   rw [Nat.zero_add]
   have e : (flatKy l)[t]? = some cur[t] := by
    rw [← htake, List.getElem?_take, if_pos (by omega), Array.getElem?_toList, Array.getElem?_eq_getElem hlt]
   rw [← hF, Array.getElem?_toList, Array.getElem?_eq_getElem hts] at e
   injection e with e
   rw [getElem!_pos _ t hts, e]
   simp [World.cell?, hg', hlt]
  have hcon := AnyQ.slices_SortFunc laySort 25 Try.isAgg31 Try.sizeOf31 encS (fun x => kyL_len x.1) (fun x => kyL_one x.1) cfS swoS 8 #[] g 0 cap d W (enters_of Try.func8 (by kernel_rfl) rfl) (cmpS g 0 d.size W) hH (Array.getElem?_eq_some_iff.1 hg').1 (by omega)
  change Calls Try.prog 49 _ _ _ at hcon
  rw [hds, ← hv] at hcon
  refine hcon.mono ?_
  rintro e w' ⟨he, d', n, os, hp, hs, hw⟩
  have hsz : d'.size = d.size := hp.1
  have hperm : d'.toList.Perm d.toList := by
   have := hp.2.2
   rw [Array.extract_eq_self_of_le (by omega), Array.extract_eq_self_of_le (by omega)] at this
   exact this
  obtain ⟨k1, k2⟩ := sortWorld_heap W g n (Sort.flatK encS 25 d') cur _ os hg'
  have hw' : w' = Sort.grow (Sort.putRow id (Sort.ahead W n) g 0 (Sort.flatK encS 25 d')) os := hw
  rw [← hw'] at k1 k2
  refine ⟨he, d'.toList.map (·.1), ⟨flatKy_length _, .inr ⟨g, cap, _, ?_, hbg, k1, ?_, hcm, ?_, ?_⟩⟩, ?_, ?_, k2.mono hbg⟩
  ·rw [hv]; simp [hsz, hds]
  ·simp [hsz, hds]; omega
  ·unfold Sort.putCells; simp [hcs]
  ·have h1 : (Sort.flatK encS 25 d').size ≤ cur.size := by rw [Sort.size_flatK, hcs, hsz, hds]; exact Nat.mul_le_mul_right _ hnc
   have h2 := putCells_take (Sort.flatK encS 25 d') cur h1
   rw [Sort.size_flatK] at h2
   rw [← flatK_list d', ← h2]
   simp
  ·rw [← hd]; exact hperm.map _
  ·intro i j x y hij hx hy
   have hj : j < d'.size := by have := (List.getElem?_eq_some_iff.1 hy).1; simpa using this
   have h1 := hs i j (Nat.zero_le _) hij (by omega)
   have hi : i < d'.size := by omega
   rw [getElem!_pos d' j hj, getElem!_pos d' i hi, ltS_false] at h1
   simp [hi] at hx
   simp [hj] at hy
   rw [← hx, ← hy]
   exact h1
theorem kone_any (W : World) (x y : Ky) (hx : KyOk x) (hy : KyOk y) (B : Nat) (hB : Has W B 37 #[.func (.func 8) #[] #[]]) :
  Calls Try.prog 51 #[.agg (kyC x), .agg (kyC y), .pointer (some ⟨B, 0, none⟩)] W fun e w' => e = .returned (.bool (decide (x = y))) ∧ Below W.heap.size W w' := by
 have K1 := (Has.new W 31 (kyC x)).alloc (.cells (kyC y) 31)
 have K2 := Has.new (W.alloc (.cells (kyC x) 31)) 31 (kyC y)
 simp only [World.size_alloc] at K2
 have q0 := (newA W (.cells (kyC x) 31)).alloc (by simp) (.cells (kyC y) 31)
 obtain ⟨V, hV⟩ : ∃ V, (W.alloc (.cells (kyC x) 31)).alloc (.cells (kyC y) 31) = V := ⟨_, rfl⟩
 rw [hV] at K1 K2 q0
 have c0 := (hB.later q0).cell 0 _ rfl
 have L1 := hid K1.kyLoad
 have L2 := hid K2.kyLoad
 have HC := hid (korder_any V x y hx hy)
 have Q := hid q0
 have hz := kcmp_zero (a := x) (b := y)
 have hd : decide (x = y) = (kcmp x y == 0) := by
  by_cases h : x = y
  ·rw [decide_eq_true h, hz.2 h]; rfl
  ·rw [decide_eq_false h]; exact (beq_eq_false_iff_ne.2 fun e => h (hz.1 e)).symm
 rw [hd]
 clear q0 K1 K2 hx hy hB hz hd
 generalize kcmp x y = r at *
 generalize kyC x = cx at *
 generalize kyC y = cy at *
 go_enter Try.func51, Try.ntmps51
 go_wp2_with (first | (with_reducible refine wpList_load_known rfl _ (.tmp 3) rfl _ rfl _ L1.out ?_) | (with_reducible refine wpList_load_known rfl _ (.tmp 4) rfl _ rfl _ L2.out ?_) | (go_at_call 8; refine HC.out.mono ?_; rintro e w1 ⟨rfl, hb1⟩))
 have HE := hid (Q.out.trans (hb1.mono Q.out.size))
 go_wp2_with fail
 go_ret
 exact ⟨rfl, HE.out⟩
theorem rangeAt_later {W X : World} {b o : Nat} {cs : List Value} (h : W.rangeAt b o cs) (hb : Below W.heap.size W X) : X.rangeAt b o cs := fun j v hj => cell_below hb _ _ (h j v hj)
theorem there_later {W X : World} {b o n : Nat} (h : W.there b o n) (hlt : b < W.heap.size) (hb : Below W.heap.size W X) : X.there b o n := fun j hj => by
 obtain ⟨h1, h2⟩ := h j hj
 refine ⟨?_, (hb.frozen (p := ⟨b, o + j, none⟩) hlt).trans h2⟩
 rw [hb.cell (p := ⟨b, o + j, none⟩) hlt]
 exact h1
theorem below_setCells {B : Nat} {w0 : World} (b : Nat) (hBb : B ≤ b) : ∀ (vs : List Value) (o : Nat) (w : World), Below B w0 w → Below B w0 (w.setCells b o vs)
 | [], _, _, h => h
 | v :: r, o, _, h => below_setCells b hBb r (o + 1) _ (h.setCell (p := ⟨b, o, none⟩) hBb v)
theorem setCells_size (b : Nat) : ∀ (vs : List Value) (o : Nat) (w : World), (w.setCells b o vs).heap.size = w.heap.size
 | [], _, _ => rfl
 | v :: r, o, w => by rw [World.setCells, setCells_size b r]; simp [World.setCell]
theorem rangeAt_in {W : World} {g o : Nat} {x : Ky} (h : W.rangeAt g o (kyL x)) : KyIn W ⟨g, o, none⟩ x := fun j u hj => by
 rw [Addr.add_mid]
 exact h j u hj
theorem rangeAt_ky {W : World} {g i : Nat} {x : Ky} (h : W.rangeAt g (i * 25) (kyL x)) : KyIn W ((⟨g, 0, none⟩ : Addr).add (i * 25)) x := fun j u hj => by
 rw [Addr.add_mid, Addr.add_mid, Nat.zero_add]
 exact h j u hj
structure Cpt (W : World) (base g n k : Nat) (l : List Ky) (i q : Nat) (p : List Ky) (w : World) : Prop where
 q1 : 1 ≤ q
 qn : k + q ≤ n
 i1 : 1 ≤ i
 ik : i + 1 ≤ k + q
 len : p.length = i
 up : Kup p
 last : p[i - 1]? = l[k + q - 1]?
 mem : ∀ x, x ∈ p ↔ x ∈ l.take (k + q)
 kept : ∀ (j : Nat) (x : Ky), p[j]? = some x → w.rangeAt g (j * 25) (kyL x)
 rest : ∀ (j : Nat) (x : Ky), k + q - 1 ≤ j → l[j]? = some x → w.rangeAt g (j * 25) (kyL x)
 there : ∀ j, j < n → w.there g (j * 25) 25
 below : Below base W w
 lt : g < w.heap.size
theorem Cpt.later {W : World} {base g n k : Nat} {l : List Ky} {i q : Nat} {p : List Ky} {w X : World} (h : Cpt W base g n k l i q p w) (hb : Below w.heap.size w X) (hbw : base ≤ w.heap.size) : Cpt W base g n k l i q p X :=
 ⟨h.q1, h.qn, h.i1, h.ik, h.len, h.up, h.last, h.mem, fun j x hx => rangeAt_later (h.kept j x hx) hb, fun j x hj hx => rangeAt_later (h.rest j x hj hx) hb, fun j hj => there_later (h.there j hj) h.lt hb, h.below.trans (hb.mono hbw), Nat.lt_of_lt_of_le h.lt hb.size⟩
theorem take_mem_succ {l : List Ky} {m : Nat} {y : Ky} (hy : l[m]? = some y) (x : Ky) : x ∈ l.take (m + 1) ↔ x ∈ l.take m ∨ x = y := by
 rw [List.take_add_one, hy]
 simp
theorem Cpt.skip {W : World} {base g n k : Nat} {l : List Ky} {i q : Nat} {p : List Ky} {w : World} (h : Cpt W base g n k l i q p w) (hq : k + q < n) {x : Ky} (hx : l[k + q - 1]? = some x) (hy : l[k + q]? = some x) : Cpt W base g n k l i (q + 1) p w where
 q1 := by omega
 qn := by omega
 i1 := h.i1
 ik := by have := h.ik; omega
 len := h.len
 up := h.up
 last := by rw [h.last, hx, show k + (q + 1) - 1 = k + q by omega, hy]
 mem z := by
  rw [h.mem, show k + (q + 1) = k + q + 1 by omega, take_mem_succ hy]
  have hq1 := h.q1
  have : x ∈ l.take (k + q) := List.mem_of_getElem? (i := k + q - 1) (by rw [List.getElem?_take, if_pos (by omega)]; exact hx)
  constructor
  ·exact .inl
  ·rintro (h | rfl)
   ·exact h
   ·exact this
 kept := h.kept
 rest j z hj hz := h.rest j z (by omega) hz
 there := h.there
 below := h.below
 lt := h.lt
theorem Cpt.keep {W : World} {base g n k : Nat} {l : List Ky} {i q : Nat} {p : List Ky} {w : World} (h : Cpt W base g n k l i q p w) (hbg : base ≤ g) (hq : k + q < n) {x y : Ky} (hx : l[k + q - 1]? = some x) (hy : l[k + q]? = some y) (hlt : Kl x y) :
  Cpt W base g n k l (i + 1) (q + 1) (p ++ [y]) (w.setCells g (i * 25) (kyL y)) where
 q1 := by omega
 qn := by omega
 i1 := by omega
 ik := by have := h.ik; omega
 len := by simp [h.len]
 up := by
  unfold Kup
  rw [List.pairwise_append]
  refine ⟨h.up, by simp, fun a ha b hb => ?_⟩
  have hb' : b = y := by simpa using hb
  subst hb'
  obtain ⟨j, hj⟩ := List.mem_iff_getElem?.1 ha
  have hji : j < i := by have := (List.getElem?_eq_some_iff.1 hj).1; rw [h.len] at this; exact this
  have hl := h.last
  rw [hx] at hl
  by_cases e : j = i - 1
  ·subst e
   rw [hl] at hj
   injection hj with hj
   subst hj
   exact hlt
  ·have := List.pairwise_iff_getElem.1 h.up j (i - 1) (by rw [h.len]; exact hji) (by rw [h.len]; have := h.i1; omega) (by omega)
   rw [(List.getElem?_eq_some_iff.1 hj).2, (List.getElem?_eq_some_iff.1 hl).2] at this
   exact this.trans hlt
 last := by
  rw [show i + 1 - 1 = i by omega, show k + (q + 1) - 1 = k + q by omega, hy, List.getElem?_append_right (by rw [h.len]; omega), h.len, Nat.sub_self]
  rfl
 mem z := by
  rw [List.mem_append, h.mem, show k + (q + 1) = k + q + 1 by omega, take_mem_succ hy]
  simp
 kept j z hz := by
  by_cases hji : j < i
  ·rw [List.getElem?_append_left (by rw [h.len]; exact hji)] at hz
   exact World.rangeAt_setCells_apart (h.kept j z hz) g (i * 25) _ (.inr (.inl (by rw [kyL_len]; omega)))
  ·have hj : j = i := by
    have := (List.getElem?_eq_some_iff.1 hz).1
    simp [h.len] at this
    omega
   subst hj
   rw [List.getElem?_append_right (by rw [h.len]; omega), h.len, Nat.sub_self] at hz
   have e : y = z := by simpa using hz
   subst e
   have hn : j < n := by have := h.ik; omega
   exact World.rangeAt_setCells_same _ _ _ _ (by rw [kyL_len]; exact h.there j hn)
 rest j z hj hz := by
  have hk := h.ik
  exact World.rangeAt_setCells_apart (h.rest j z (by omega) hz) g (i * 25) _ (.inr (.inr (by rw [kyL_len]; omega)))
 there j hj := World.there_setCells (h.there j hj) _ _ _
 below := below_setCells g hbg _ _ _ h.below
 lt := by rw [setCells_size]; exact h.lt
theorem Cpt.start {W : World} {base g n k : Nat} {l : List Ky} {z : World} (hn : l.length = n) (hk1 : 1 ≤ k) (hkn : k < n) {x : Ky} (hx : l[k - 1]? = some x) (hy : l[k]? = some x)
  (hlt : ∀ (j : Nat) (x y : Ky), j + 1 < k → l[j]? = some x → l[j + 1]? = some y → Kl x y) (hr : ∀ (j : Nat) (x : Ky), l[j]? = some x → W.rangeAt g (j * 25) (kyL x)) (ht : ∀ j, j < n → W.there g (j * 25) 25)
  (hb : Below W.heap.size W z) (hbase : base ≤ W.heap.size) (hg : g < W.heap.size) : Cpt W base g n k l k 1 (l.take k) z where
 q1 := Nat.le_refl _
 qn := by omega
 i1 := hk1
 ik := Nat.le_refl _
 len := by rw [List.length_take]; omega
 up := kup_at.2 (fun j a b ha hb => by
  rw [List.getElem?_take] at ha hb
  split at ha
  ·split at hb
   ·exact hlt j a b (by omega) ha hb
   ·cases hb
  ·cases ha)
 last := by rw [List.getElem?_take, if_pos (by omega), hx, show k + 1 - 1 = k by omega, hy]
 mem z := by
  rw [take_mem_succ hy]
  have : x ∈ l.take k := List.mem_of_getElem? (i := k - 1) (by rw [List.getElem?_take, if_pos (by omega)]; exact hx)
  exact ⟨.inl, fun h => by rcases h with h | rfl; exact h; exact this⟩
 kept j a ha := by
  rw [List.getElem?_take] at ha
  split at ha
  ·exact rangeAt_later (hr j a ha) hb
  ·cases ha
 rest j a _ ha := rangeAt_later (hr j a ha) hb
 there j hj := there_later (ht j hj) hg hb
 below := hb.mono hbase
 lt := Nat.lt_of_lt_of_le hg hb.size
theorem run_clear_keys (w : World) (ty g o m c : Nat) (hm : 0 < m) (ht : ∀ j, j < m * 25 → (w.cell? ⟨g, o + j, none⟩).isSome = true ∧ w.frozen? ⟨g, o + j, none⟩ = false) :
  ∃ zs : List Value, zs.length = m * 25 ∧ (Builtin.clear_ #[22] ty #[.slice (some ⟨g, o, none⟩) m c]).run Try.prog w = .ok (.tuple #[]) (w.setCells g o zs) := by
 obtain ⟨i, hi, hz, _, _⟩ := infoK_of
 have hv : ∀ w, (zeroValue 31).run Try.prog w = .ok (.agg #[.int .u8 0, .int .u8 0, .int .u8 0, .int .u8 0, .int .u8 0, .int .u8 0, .int .u8 0, .int .u8 0, .int .u8 0, .int .u8 0, .int .u8 0, .int .u8 0, .int .u8 0, .int .u8 0, .int .u8 0, .int .u8 0, .int .u8 0, .int .u8 0, .int .u8 0, .int .u8 0, .bool false, .int .u64 0, .int .u64 0, .int .u64 0, .int .u64 0]) w := fun w => by simp [zeroValue, typeInfo, Sem.run_bind, hi, hz, program, Sem.run]
 have hlen : (Builtin.zeroCells #[.int .u8 0, .int .u8 0, .int .u8 0, .int .u8 0, .int .u8 0, .int .u8 0, .int .u8 0, .int .u8 0, .int .u8 0, .int .u8 0, .int .u8 0, .int .u8 0, .int .u8 0, .int .u8 0, .int .u8 0, .int .u8 0, .int .u8 0, .int .u8 0, .int .u8 0, .int .u8 0, .bool false, .int .u64 0, .int .u64 0, .int .u64 0, .int .u64 0] m).toList.length = m * 25 := by simp [Builtin.zeroCells]
 refine ⟨(Builtin.zeroCells #[.int .u8 0, .int .u8 0, .int .u8 0, .int .u8 0, .int .u8 0, .int .u8 0, .int .u8 0, .int .u8 0, .int .u8 0, .int .u8 0, .int .u8 0, .int .u8 0, .int .u8 0, .int .u8 0, .int .u8 0, .int .u8 0, .int .u8 0, .int .u8 0, .int .u8 0, .int .u8 0, .bool false, .int .u64 0, .int .u64 0, .int .u64 0, .int .u64 0] m).toList, hlen, ?_⟩
 have hone : ∀ t, t < 25 → ((#[.int .u8 0, .int .u8 0, .int .u8 0, .int .u8 0, .int .u8 0, .int .u8 0, .int .u8 0, .int .u8 0, .int .u8 0, .int .u8 0, .int .u8 0, .int .u8 0, .int .u8 0, .int .u8 0, .int .u8 0, .int .u8 0, .int .u8 0, .int .u8 0, .int .u8 0, .int .u8 0, .bool false, .int .u64 0, .int .u64 0, .int .u64 0, .int .u64 0] : Array Value)[t]!).oneCell' = true := by
  have : (List.range 25).all (fun t => ((#[.int .u8 0, .int .u8 0, .int .u8 0, .int .u8 0, .int .u8 0, .int .u8 0, .int .u8 0, .int .u8 0, .int .u8 0, .int .u8 0, .int .u8 0, .int .u8 0, .int .u8 0, .int .u8 0, .int .u8 0, .int .u8 0, .int .u8 0, .int .u8 0, .int .u8 0, .int .u8 0, .bool false, .int .u64 0, .int .u64 0, .int .u64 0, .int .u64 0] : Array Value)[t]!).oneCell') = true := by kernel_rfl
  intro t ht
  exact List.all_eq_true.1 this t (List.mem_range.2 ht)
 have hst := run_storeCells_cells (P := Try.prog) g o (Builtin.zeroCells #[.int .u8 0, .int .u8 0, .int .u8 0, .int .u8 0, .int .u8 0, .int .u8 0, .int .u8 0, .int .u8 0, .int .u8 0, .int .u8 0, .int .u8 0, .int .u8 0, .int .u8 0, .int .u8 0, .int .u8 0, .int .u8 0, .int .u8 0, .int .u8 0, .int .u8 0, .int .u8 0, .bool false, .int .u64 0, .int .u64 0, .int .u64 0, .int .u64 0] m).toList 0 w (fun j hj => by rw [hlen] at hj; exact (ht j hj).1) (fun j hj => by rw [hlen] at hj; exact (ht j hj).2) (by
  intro v hv'
  simp only [Builtin.zeroCells, Array.toList_map, List.mem_map] at hv'
  obtain ⟨i, _, rfl⟩ := hv'
  exact hone _ (Nat.mod_lt _ (by decide)))
 simp only [Nat.add_zero] at hst
 obtain ⟨k, rfl⟩ : ∃ k, m = k + 1 := ⟨m - 1, by omega⟩
 simp [Builtin.clear_, run_underlying Try.underlying22, hv, Value.cells, hst]
structure KSet (W : World) (base : Nat) (l : List Ky) (e : Ending) (w' : World) : Prop where
 ex : ∃ v' s, e = .returned v' ∧ KeysAt w' v' s ∧ Kup s ∧ (∀ x, x ∈ s ↔ x ∈ l) ∧ Below base W w'
theorem kup_short {l : List Ky} (h : l.length < 2) : Kup l := by
 match l, h with
 | [], _ => exact List.Pairwise.nil
 | [x], _ => exact List.pairwise_singleton _ _
theorem compact_keys (W : World) (base : Nat) (v : Value) (l : List Ky) (hr : KRow W base v l) (hok : ∀ x ∈ l, KyOk x) (hso : Kso l) (hl : l.length ≤ 100000) (hbase : base ≤ W.heap.size) (B : Nat) (hBb : B < base) (hB : Has W B 37 #[.func (.func 8) #[] #[]]) :
  Calls Try.prog 50 #[v, .func (.func 51) #[] #[.pointer (some ⟨B, 0, none⟩)]] W (KSet W base l) := by
 have hmx : Try.prog.follows .mixedOrders = true := by kernel_rfl
 have hk := hr.keys hok
 obtain ⟨n, hn⟩ : ∃ n, l.length = n := ⟨_, rfl⟩
 have HN := hid hn
 have HOK := hid hok
 have HSO := hid hso
 have HB := hid hB
 have hfin := hid (show ∀ (w' : World) (v' : Value) (s : List Ky), KeysAt w' v' s → Kup s → (∀ x, x ∈ s ↔ x ∈ l) → Below base W w' → KSet W base l (.returned v') w' from fun w' v' s h1 h2 h3 h4 => ⟨v', s, rfl, h1, h2, h3, h4⟩)
 obtain ⟨Post, hPost⟩ : ∃ Post, KSet W base l = Post := ⟨_, rfl⟩
 rw [hPost] at hfin ⊢
 clear hPost
 by_cases h2 : n < 2
 ·obtain ⟨a, cap, rfl, _, _⟩ := hk.shape
  have HK := hid hk
  rw [hn] at HK ⊢
  have h2I : (n : Int) < 2 := by omega
  clear hk hr hok hso hB hn h2
  go_enter Try.func50, Try.ntmps50
  go_wp2_with fail
  exact hfin.out _ _ l HK.out (kup_short (by have := HN.out; omega)) (fun x => Iff.rfl) (Below.refl _ _)
 rcases hr.2 with ⟨_, h0⟩ | ⟨g, cap, cur, rfl, hbg, hg', hnc, hcm, hcs, htake⟩
 ·omega
 have hg : g < W.heap.size := (Array.getElem?_eq_some_iff.1 hg').1
 have HK := hid hk
 have HG := hid (And.intro hg hbg)
 have HT0 := hid (show ∀ j, j < n → W.there g (j * 25) 25 from fun j hj t ht => by
  have hlt : j * 25 + t < cur.size := by rw [hcs]; omega
  exact ⟨by simp [World.cell?, hg', hlt], by simp [World.frozen?, hg']⟩)
 have HR0 := hid (show ∀ (j : Nat) (x : Ky), l[j]? = some x → W.rangeAt g (j * 25) (kyL x) from fun j x hx t u hu => by
  have ht : t < 25 := by have := (List.getElem?_eq_some_iff.1 hu).1; rwa [kyL_len] at this
  have e := (flatKy_at l j x t hx ht).trans hu
  have hj : j < n := by have := (List.getElem?_eq_some_iff.1 hx).1; omega
  rw [← htake, List.getElem?_take, if_pos (by omega), Array.getElem?_toList] at e
  simp [World.cell?, hg', e])
 have hcap := hid (show n ≤ cap ∧ cap ≤ 9223372036854775807 from ⟨by omega, by simpa [maxLen] using hcm⟩)
 have h2I : ¬ (n : Int) < 2 := by omega
 have hn2 := hid h2
 rw [hn] at HK ⊢
 clear hk hr hok hso hB hn h2 hnc hcm hcs htake hg' hg hbg
 have hnb := hid (show n ≤ 9223372036854775807 from Nat.le_trans hcap.out.1 hcap.out.2)
 go_enter Try.func50, Try.ntmps50
 go_wp2_with fail
 go_loopw [5] (fun i wr => ∃ k : Nat, 1 ≤ k ∧ k ≤ n ∧ i = .int .i64 (k : Int) ∧ (∀ (j : Nat) (x y : Ky), j + 1 < k → l[j]? = some x → l[j + 1]? = some y → Kl x y) ∧ Below W.heap.size W wr) (fun i _ => n - (intOf i).toNat)
 case atStart => exact ⟨1, by omega, by have := hn2.out; omega, rfl, fun j x y h => absurd h (by omega), Below.refl _ _⟩
 case round =>
  obtain ⟨k, hk1, hk, rfl, hlt, hq⟩ := hrel
  have HLT := hid hlt
  have HQ := hid hq
  clear hlt hq
  by_cases hkn : k < n
  ·have hknI : (k : Int) < (n : Int) := by omega
   have hk0 : (0 : Int) ≤ (k : Int) := by omega
   have hkb : (k : Int) ≤ 9223372036854775806 := by have := hnb.out; omega
   obtain ⟨m, hm⟩ : ∃ m, k - 1 = m := ⟨_, rfl⟩
   have hm1 : (k : Int) - 1 = (m : Int) := by omega
   have hm2 : (m : Int) < (n : Int) := by omega
   obtain ⟨x, hx⟩ : ∃ x, l[m]? = some x := ⟨_, List.getElem?_eq_getElem (by have := HN.out; omega)⟩
   obtain ⟨y, hy⟩ : ∃ y, l[k]? = some y := ⟨_, List.getElem?_eq_getElem (by have := HN.out; omega)⟩
   have ax := (HK.out.later HQ.out).in hx
   have ay := (HK.out.later HQ.out).in hy
   rw [Addr.add_mid, Nat.zero_add] at ax ay
   have LX := hid (show ∀ z : World, Grows wr z → (loadVar 31 (⟨g, m * 25, none⟩ : Addr)).run Try.prog z = .ok (.agg (kyC x)) z from fun z hz => by obtain ⟨q, rfl⟩ := hz; exact (ax.later q.below).load)
   have LY := hid (show ∀ z : World, Grows wr z → (loadVar 31 (⟨g, k * 25, none⟩ : Addr)).run Try.prog z = .ok (.agg (kyC y)) z from fun z hz => by obtain ⟨q, rfl⟩ := hz; exact (ay.later q.below).load)
   have K3 := hid (fun z : Ext wr => Ext.atK (kone_any z.w y x (HK.out.ok hy) (HK.out.ok hx) B ((HB.out.later HQ.out).later z.below)))
   have HX := hid (And.intro hx hy)
   have HM := hid hm
   have HKK := hid (And.intro hk1 hkn)
   clear hx hy hm hk1 hk hkn ax ay
   generalize kyC x = cx at *
   generalize kyC y = cy at *
   cases hp : decide (y = x)
   ·rw [hp] at K3
    have HP := hid hp
    clear hp
    go_wp2_with fail
    refine wp_region_quietL (C := Grows wr) hmx (by kernel_rfl) (grows_refl wr) ?_
    repeat (first | (with_reducible refine wpQuiet_load rfl 31 _ rfl _ rfl _ LY.out ?_; simp only [Act.put, sT, sS, sZ]) | (with_reducible refine wpQuiet_load rfl 31 _ rfl _ rfl _ LX.out ?_; simp only [Act.put, sT, sS, sZ]) | (go_big_quiet_step (first | (with_reducible exact K3.out _))))
    refine wpQuiet_nil ?_
    rintro _ ⟨z, rfl⟩
    have HE := hid (HQ.out.trans (z.below.mono HQ.out.size))
    clear LX LY K3
    go_wp2_with fail
    go_roundw
    case rel =>
     refine ⟨k + 1, by omega, by have := HKK.out; omega, by simp, fun j x' y' hj h1 h2 => ?_, HE.out⟩
     by_cases hjk : j + 1 < k
     ·exact HLT.out j x' y' hjk h1 h2
     ·have hjm : j = m := by have := HM.out; have := HKK.out; omega
      subst hjm
      rw [HX.out.1] at h1
      rw [show j + 1 = k by have := HM.out; have := HKK.out; omega, HX.out.2] at h2
      injection h1 with h1
      injection h2 with h2
      subst h1 h2
      rcases kcmp_tri x y with ⟨h, _⟩ | ⟨h, _⟩ | ⟨h, _⟩
      ·exact h
      ·exact absurd h.symm (of_decide_eq_false HP.out)
      ·exact absurd h (HSO.out j k x y (by have := HM.out; have := HKK.out; omega) HX.out.1 HX.out.2)
    case measure => have := HKK.out; simp [intOf]; omega
   ·rw [hp] at K3
    have HP := hid hp
    clear hp
    go_wp2_with fail
    refine wp_region_quietL (C := Grows wr) hmx (by kernel_rfl) (grows_refl wr) ?_
    repeat (first | (with_reducible refine wpQuiet_load rfl 31 _ rfl _ rfl _ LY.out ?_; simp only [Act.put, sT, sS, sZ]) | (with_reducible refine wpQuiet_load rfl 31 _ rfl _ rfl _ LX.out ?_; simp only [Act.put, sT, sS, sZ]) | (go_big_quiet_step (first | (with_reducible exact K3.out _))))
    refine wpQuiet_nil ?_
    rintro _ ⟨z, rfl⟩
    have HE := hid (HQ.out.trans (z.below.mono HQ.out.size))
    clear LX LY K3
    obtain ⟨d, hd⟩ : ∃ d, n - k = d := ⟨_, rfl⟩
    obtain ⟨c2, hc2⟩ : ∃ c2, cap - k = c2 := ⟨_, rfl⟩
    have hck : ¬ cap = k := by have := HKK.out; have := hcap.out; omega
    have HD := hid hd
    have HST := hid (Cpt.start HN.out HKK.out.1 HKK.out.2 (x := x) (by rw [HM.out]; exact HX.out.1) (by rw [HX.out.2, of_decide_eq_true HP.out]) HLT.out HR0.out HT0.out HE.out hbase HG.out.1)
    clear hm1 hm2
    go_wp2_with fail
    clear hd hc2 hck
    go_loopw [5, 7] (fun i q wr => ∃ (ii qq : Nat) (p : List Ky), i = .int .i64 (ii : Int) ∧ q = .int .i64 (qq : Int) ∧ Cpt W base g n k l ii qq p wr) (fun i q _ => n - (intOf q).toNat)
    case atStart => exact ⟨k, 1, l.take k, rfl, rfl, HST.out⟩
    case round =>
     obtain ⟨wr2, hwr2⟩ : ∃ w2, w2 = wr := ⟨_, rfl⟩
     subst hwr2
     obtain ⟨ii, qq, p, rfl, rfl, hc⟩ := hrel
     have HC := hid hc
     clear hc
     by_cases hqd : qq < d
     ·have hqI : (qq : Int) < (d : Int) := by omega
      have hq0 : (0 : Int) ≤ (qq : Int) := by omega
      have hqb : (qq : Int) ≤ 9223372036854775806 := by have := hnb.out; have := HD.out; omega
      obtain ⟨q1, hq1⟩ : ∃ q1, qq - 1 = q1 := ⟨_, rfl⟩
      have hq1' := HC.out.q1
      have hm1 : (qq : Int) - 1 = (q1 : Int) := by omega
      have hm2 : (q1 : Int) < (d : Int) := by omega
      have hm0 : (0 : Int) ≤ (q1 : Int) := by omega
      have hin : ii < n := by have := HC.out.ik; have := HD.out; have := HKK.out; omega
      have hiI : (ii : Int) < (n : Int) := by omega
      have hi0 : (0 : Int) ≤ (ii : Int) := by omega
      have hib : (ii : Int) ≤ 9223372036854775806 := by have := hnb.out; omega
      have hkq : k + qq < n := by have := HD.out; have := HKK.out; omega
      obtain ⟨x2, hx⟩ : ∃ x, l[k + qq - 1]? = some x := ⟨_, List.getElem?_eq_getElem (by have := HN.out; omega)⟩
      obtain ⟨y2, hy⟩ : ∃ y, l[k + qq]? = some y := ⟨_, List.getElem?_eq_getElem (by have := HN.out; omega)⟩
      have ax := rangeAt_in (HC.out.rest _ x2 (Nat.le_refl _) hx)
      have ay := rangeAt_in (HC.out.rest _ y2 (by omega) hy)
      rw [show (k + qq - 1) * 25 = k * 25 + q1 * 25 by omega] at ax
      rw [show (k + qq) * 25 = k * 25 + qq * 25 by omega] at ay
      have LX := hid (show ∀ z : World, Grows wr2 z → (loadVar 31 (⟨g, k * 25 + q1 * 25, none⟩ : Addr)).run Try.prog z = .ok (.agg (kyC x2)) z from fun z hz => by obtain ⟨q, rfl⟩ := hz; exact (ax.later q.below).load)
      have LY := hid (show ∀ z : World, Grows wr2 z → (loadVar 31 (⟨g, k * 25 + qq * 25, none⟩ : Addr)).run Try.prog z = .ok (.agg (kyC y2)) z from fun z hz => by obtain ⟨q, rfl⟩ := hz; exact (ay.later q.below).load)
      have hB2 : Has wr2 B 37 #[.func (.func 8) #[] #[]] := HB.out.below HC.out.below hBb
      have K3 := hid (fun z : Ext wr2 => Ext.atK (kone_any z.w y2 x2 (HK.out.ok hy) (HK.out.ok hx) B (hB2.later z.below)))
      have HX2 := hid (And.intro hx hy)
      have HKQ := hid hkq
      have HCY := hid (show (kyC y2).toList = kyL y2 from rfl)
      have hiK : (Try.prog.info? 31).map (·.size) = some (kyC y2).size := by rw [kyC_size]; exact infoKy
      have hoK := kyC_one y2
      have hzK := kyC_size y2
      clear hx hy ax ay hB2 hqd hin hkq hq1 hq1'
      generalize kyC x2 = cx2 at *
      generalize kyC y2 = cy2 at *
      cases hp : decide (y2 = x2)
      ·rw [hp] at K3
       have HP2 := hid hp
       clear hp
       go_wp2_with fail
       refine wp_region_quietL (C := Grows wr2) hmx (by kernel_rfl) (grows_refl wr2) ?_
       repeat (first | (with_reducible refine wpQuiet_load rfl 31 _ rfl _ rfl _ LY.out ?_; simp only [Act.put, sT, sS, sZ]) | (with_reducible refine wpQuiet_load rfl 31 _ rfl _ rfl _ LX.out ?_; simp only [Act.put, sT, sS, sZ]) | (go_big_quiet_step (first | (with_reducible exact K3.out _))))
       refine wpQuiet_nil ?_
       rintro _ ⟨z2, rfl⟩
       have HC2 := hid (HC.out.later z2.below (by have := HC.out.below.size; omega))
       have hL := LY.out z2.w ⟨z2, rfl⟩
       have hT : z2.w.there g (ii * 25) cy2.size := by rw [hzK]; exact HC2.out.there ii (by have := HC2.out.ik; have := HKQ.out; omega)
       obtain ⟨V1, hV1⟩ : ∃ V1, z2.w.setCells g (ii * 25) cy2.toList = V1 := ⟨_, rfl⟩
       clear LX LY K3
       go_wp2_with (first | (with_reducible refine wpList_load_known rfl _ (.tmp 54) rfl _ rfl _ hL ?_) | (refine wpList_store_mid rfl 31 (.tmp 56) (.tmp 55) rfl g (ii * 25) cy2 rfl rfl hT hiK hoK ?_; rw [hV1]))
       go_roundw
       case rel =>
        refine ⟨ii + 1, qq + 1, p ++ [y2], by simp, by simp, ?_⟩
        rw [← hV1, HCY.out]
        refine HC2.out.keep HG.out.2 HKQ.out HX2.out.1 HX2.out.2 ?_
        rcases kcmp_tri x2 y2 with ⟨h, _⟩ | ⟨h, _⟩ | ⟨h, _⟩
        ·exact h
        ·exact absurd h.symm (of_decide_eq_false HP2.out)
        ·exact absurd h (HSO.out (k + qq - 1) (k + qq) x2 y2 (by have := HC2.out.q1; omega) HX2.out.1 HX2.out.2)
       case measure => have := HKQ.out; simp [intOf]; omega
      ·rw [hp] at K3
       have HP2 := hid hp
       clear hp
       go_wp2_with fail
       refine wp_region_quietL (C := Grows wr2) hmx (by kernel_rfl) (grows_refl wr2) ?_
       repeat (first | (with_reducible refine wpQuiet_load rfl 31 _ rfl _ rfl _ LY.out ?_; simp only [Act.put, sT, sS, sZ]) | (with_reducible refine wpQuiet_load rfl 31 _ rfl _ rfl _ LX.out ?_; simp only [Act.put, sT, sS, sZ]) | (go_big_quiet_step (first | (with_reducible exact K3.out _))))
       refine wpQuiet_nil ?_
       rintro _ ⟨z2, rfl⟩
       have HC2 := hid (HC.out.later z2.below (by have := HC.out.below.size; omega))
       clear LX LY K3
       go_wp2_with fail
       go_roundw
       case rel =>
        exact ⟨ii, qq + 1, p, rfl, by simp, HC2.out.skip HKQ.out HX2.out.1 (by rw [HX2.out.2, of_decide_eq_true HP2.out])⟩
       case measure => have := HKQ.out; simp [intOf]; omega
     ·have hqI : ¬ (qq : Int) < (d : Int) := by omega
      have hkq : k + qq = n := by have := HC.out.qn; have := HD.out; have := HKK.out; omega
      have hin : ii < n := by have := HC.out.ik; omega
      obtain ⟨e2, he2⟩ : ∃ e2, n - ii = e2 := ⟨_, rfl⟩
      obtain ⟨c3, hc3⟩ : ∃ c3, cap - ii = c3 := ⟨_, rfl⟩
      have hci : ¬ cap = ii := by have := hcap.out; omega
      obtain ⟨zs, hzl, hclr⟩ := run_clear_keys wr2 0 g (ii * 25) e2 c3 (by omega) (fun j hj => by
       have := HC.out.there (ii + j / 25) (by omega) (j % 25) (Nat.mod_lt _ (by decide))
       rw [show (ii + j / 25) * 25 + j % 25 = ii * 25 + j by omega] at this
       exact this)
      obtain ⟨V1, hV1⟩ : ∃ V1, wr2.setCells g (ii * 25) zs = V1 := ⟨_, rfl⟩
      rw [hV1] at hclr
      have hiI : (ii : Int) < (n : Int) := by omega
      have hi0 : (0 : Int) ≤ (ii : Int) := by omega
      have hF := hid (show KeysAt V1 (.slice (some ⟨g, 0, none⟩) ii cap) p ∧ Below base W V1 from by
       have hl := HC.out.len
       refine ⟨⟨some ⟨g, 0, none⟩, cap, by rw [hl], by have := hcap.out; omega, hcap.out.2, fun x hx => HOK.out x (List.mem_of_mem_take ((HC.out.mem x).1 hx)), fun i x hx => ⟨_, rfl, ?_⟩⟩, ?_⟩
       ·refine rangeAt_ky ?_
        rw [← hV1]
        have hii : i < ii := by have := (List.getElem?_eq_some_iff.1 hx).1; omega
        exact World.rangeAt_setCells_apart (HC.out.kept i x hx) g (ii * 25) _ (.inr (.inl (by rw [kyL_len]; omega)))
       ·rw [← hV1]
        exact below_setCells g HG.out.2 _ _ _ HC.out.below)
      have hmem := hid (show ∀ x, x ∈ p ↔ x ∈ l from fun x => by rw [HC.out.mem x, hkq, List.take_of_length_le (by have := HN.out; omega)])
      have hicI : (ii : Int) ≤ (cap : Int) := by have := hcap.out; omega
      have hic : ii ≤ cap := by omega
      clear hqd hkq hin hV1 hzl
      go_wp2_with fail
      exact hfin.out _ _ p hF.out.1 HC.out.up hmem.out hF.out.2
  ·have hkn' : k = n := by omega
   subst hkn'
   have hknI : ¬ (k : Int) < (k : Int) := by omega
   have hyes := hid (show Kup l from kup_at.2 (fun j x y hx hy => HLT.out j x y (by have := (List.getElem?_eq_some_iff.1 hy).1; have := HN.out; omega) hx hy))
   clear hk hkn
   go_wp2_with fail
   exact hfin.out _ _ l (HK.out.later HQ.out) hyes.out (fun x => Iff.rfl) (HQ.out.mono (by have := HG.out; omega))
end
section
open Go Go.RowKit
noncomputable def insK (x : Ky) : List Ky → List Ky
 | [] => [x]
 | y :: r => if kcmp x y < 0 then x :: y :: r else if kcmp x y = 0 then y :: r else y :: insK x r
theorem insK_mem (x : Ky) : ∀ (l : List Ky) (z : Ky), z ∈ insK x l ↔ z = x ∨ z ∈ l
 | [], z => by simp [insK]
 | y :: r, z => by
  unfold insK
  split
  ·simp
  ·split
   ·rename_i h
    have := kcmp_zero.1 h
    subst this
    simp
   ·rw [List.mem_cons, insK_mem x r, List.mem_cons]
    constructor
    ·rintro (h | h | h)
     ·exact .inr (.inl h)
     ·exact .inl h
     ·exact .inr (.inr h)
    ·rintro (h | h | h)
     ·exact .inr (.inl h)
     ·exact .inl h
     ·exact .inr (.inr h)
theorem insK_up (x : Ky) : ∀ (l : List Ky), Kup l → Kup (insK x l)
 | [], _ => List.pairwise_singleton _ _
 | y :: r, h => by
  have h1 := List.pairwise_cons.1 h
  unfold insK
  split
  ·rename_i hlt
   refine List.pairwise_cons.2 ⟨fun z hz => ?_, h⟩
   rcases List.mem_cons.1 hz with rfl | hz
   ·exact hlt
   ·exact Kl.trans hlt (h1.1 z hz)
  ·split
   ·exact h
   ·rename_i h2 h3
    refine List.pairwise_cons.2 ⟨fun z hz => ?_, insK_up x r h1.2⟩
    rcases (insK_mem x r z).1 hz with rfl | hz
    ·rcases kcmp_tri z y with ⟨h, _⟩ | ⟨_, h⟩ | ⟨h, _⟩
     ·exact absurd h h2
     ·exact absurd h h3
     ·exact h
    ·exact h1.1 z hz
theorem insK_len (x : Ky) : ∀ (l : List Ky), (insK x l).length ≤ l.length + 1
 | [] => Nat.le_refl _
 | y :: r => by
  unfold insK
  split
  ·simp
  ·split
   ·simp
   ·have := insK_len x r
    simp only [List.length_cons]
    omega
noncomputable def setL (l : List Ky) : List Ky := l.foldl (fun s x => insK x s) []
theorem setL_snoc (l : List Ky) (x : Ky) : setL (l ++ [x]) = insK x (setL l) := by simp [setL]
theorem foldK (l : List Ky) : ∀ s : List Ky, Kup s → Kup (l.foldl (fun s x => insK x s) s) ∧ ∀ z, z ∈ l.foldl (fun s x => insK x s) s ↔ z ∈ s ∨ z ∈ l := by
 induction l with
 | nil => intro s h; exact ⟨h, fun z => by simp⟩
 | cons x r ih =>
  intro s h
  obtain ⟨h1, h2⟩ := ih (insK x s) (insK_up x s h)
  refine ⟨h1, fun z => ?_⟩
  rw [List.foldl_cons, h2, insK_mem, List.mem_cons]
  constructor
  ·rintro ((h | h) | h)
   ·exact .inr (.inl h)
   ·exact .inl h
   ·exact .inr (.inr h)
  ·rintro (h | h | h)
   ·exact .inl (.inr h)
   ·exact .inl (.inl h)
   ·exact .inr h
theorem setL_up (l : List Ky) : Kup (setL l) := (foldK l [] List.Pairwise.nil).1
theorem setL_mem (l : List Ky) (z : Ky) : z ∈ setL l ↔ z ∈ l := by
 have := (foldK l [] List.Pairwise.nil).2 z
 simpa [setL] using this
theorem setL_len (l : List Ky) : (setL l).length ≤ l.length := by
 have key : ∀ (l s : List Ky), (l.foldl (fun s x => insK x s) s).length ≤ s.length + l.length := by
  intro l
  induction l with
  | nil => intro s; simp
  | cons x r ih =>
   intro s
   have h1 := ih (insK x s)
   have h2 := insK_len x s
   rw [List.foldl_cons, List.length_cons]
   omega
 simpa [setL] using key l []
theorem kup_ext : ∀ {a b : List Ky}, Kup a → Kup b → (∀ x, x ∈ a ↔ x ∈ b) → a = b
 | [], [], _, _, _ => rfl
 | [], y :: b, _, _, h => absurd ((h y).2 (by simp)) (by simp)
 | x :: a, [], _, _, h => absurd ((h x).1 (by simp)) (by simp)
 | x :: a, y :: b, ha, hb, h => by
  have h1 := List.pairwise_cons.1 ha
  have h2 := List.pairwise_cons.1 hb
  have hxy : x = y := by
   rcases List.mem_cons.1 ((h x).1 (by simp)) with e | e
   ·exact e
   ·rcases List.mem_cons.1 ((h y).2 (by simp)) with e' | e'
    ·exact e'.symm
    ·exact absurd ((h2.1 x e).trans (h1.1 y e')) (Kl.irrefl y)
  subst hxy
  rw [kup_ext h1.2 h2.2 (fun z => ?_)]
  have hz := h z
  rw [List.mem_cons, List.mem_cons] at hz
  constructor
  ·intro k
   rcases hz.1 (.inr k) with e | e
   ·subst e; exact absurd (h1.1 z k) (Kl.irrefl z)
   ·exact e
  ·intro k
   rcases hz.2 (.inr k) with e | e
   ·subst e; exact absurd (h2.1 z k) (Kl.irrefl z)
   ·exact e
theorem setL_eq {l s : List Ky} (h : Kup s) (hm : ∀ x, x ∈ s ↔ x ∈ l) : s = setL l := kup_ext h (setL_up l) (fun x => (hm x).trans (setL_mem l x).symm)
theorem setL_self {l : List Ky} (h : Kup l) : setL l = l := (setL_eq h (fun _ => Iff.rfl)).symm
noncomputable def makeM (r s : List Ky) : List Ky × List Ky × Nat :=
 if r.any strayK || s.any strayK then ([], [], 1) else if 200 < (setL r).length ∨ 200 < (setL s).length then ([], [], 2) else (setL r, setL s, 0)
theorem makeM_ok {r s : List Ky} (h1 : r.any strayK = false) (h2 : s.any strayK = false) (h3 : (setL r).length ≤ 200) (h4 : (setL s).length ≤ 200) : makeM r s = (setL r, setL s, 0) := by
 unfold makeM
 rw [h1, h2, if_neg (by decide), if_neg (by omega)]
end
end Go.Proofs.Ytahjgllnfbejmaa

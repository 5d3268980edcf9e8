/- Part. -/
import Derived.DeepKeys4
import Derived.Maps.OwnSet
import Derived.Maps.OwnIn
import Derived.Maps.Range
import Derived.Maps.RangeWalk
import Derived.Test.YtlihnlkcgiopoaaDoorJ08
set_option maxRecDepth 100000
set_option maxHeartbeats 16000000
namespace Go.Proofs.YtlihnlkcgiopoaaDoor
section
open Go Go.RowKit Go.Maps Go.WideMaps Go.ChangeMaps
def ddA (acc : List Ky) : List Ky → List Ky
 | [] => acc
 | k :: r => if k ∈ acc then ddA acc r else ddA (acc ++ [k]) r
def ddK (l : List Ky) : List Ky := ddA [] l
theorem ddA_app (acc : List Ky) : ∀ a b : List Ky, ddA acc (a ++ b) = ddA (ddA acc a) b
 | [], b => rfl
 | k :: r, b => by
  show (if k ∈ acc then ddA acc (r ++ b) else ddA (acc ++ [k]) (r ++ b)) = ddA (if k ∈ acc then ddA acc r else ddA (acc ++ [k]) r) b
  split
  ·exact ddA_app acc r b
  ·exact ddA_app _ r b
theorem ddA_mem (x : Ky) : ∀ (l acc : List Ky), x ∈ ddA acc l ↔ x ∈ acc ∨ x ∈ l
 | [], acc => by simp [ddA]
 | k :: r, acc => by
  unfold ddA
  split
  ·rename_i h
   rw [ddA_mem x r acc, List.mem_cons]
   constructor
   ·rintro (h1 | h1)
    ·exact .inl h1
    ·exact .inr (.inr h1)
   ·rintro (h1 | h1 | h1)
    ·exact .inl h1
    ·exact .inl (h1 ▸ h)
    ·exact .inr h1
  ·rw [ddA_mem x r _, List.mem_append, List.mem_singleton, List.mem_cons, or_assoc]
theorem ddK_mem (x : Ky) (l : List Ky) : x ∈ ddK l ↔ x ∈ l := by rw [ddK, ddA_mem]; simp
theorem ddK_snoc (l : List Ky) (x : Ky) : ddK (l ++ [x]) = if x ∈ l then ddK l else ddK l ++ [x] := by
 unfold ddK
 rw [ddA_app]
 have : (x ∈ ddA [] l) ↔ x ∈ l := ddK_mem x l
 by_cases h : x ∈ l
 ·rw [if_pos h]
  show (if x ∈ ddA [] l then _ else _) = _
  rw [if_pos (this.2 h)]; rfl
 ·rw [if_neg h]
  show (if x ∈ ddA [] l then _ else _) = _
  rw [if_neg (fun h' => h (this.1 h'))]; rfl
theorem ddA_pre : ∀ (l acc : List Ky), ∃ r, ddA acc l = acc ++ r
 | [], acc => ⟨[], by simp [ddA]⟩
 | k :: r, acc => by
  unfold ddA
  split
  ·exact ddA_pre r acc
  ·obtain ⟨t, ht⟩ := ddA_pre r (acc ++ [k])
   exact ⟨k :: t, by rw [ht, List.append_assoc]; rfl⟩
theorem ddK_pre (a b : List Ky) : ∃ r, ddK (a ++ b) = ddK a ++ r := by
 unfold ddK
 rw [ddA_app]
 exact ddA_pre b _
theorem ddK_len (l : List Ky) : (ddK l).length ≤ l.length := by
 have : ∀ (l acc : List Ky), (ddA acc l).length ≤ acc.length + l.length := by
  intro l
  induction l with
  | nil => intro acc; simp [ddA]
  | cons k r ih =>
   intro acc
   unfold ddA
   split
   ·have := ih acc; simp; omega
   ·have := ih (acc ++ [k]); simp at this; simp; omega
 simpa [ddK] using this l []
def nthG (l : List Ky) (k : Nat) : Ky := (ddK l).getD k ⟨0, false, 0⟩
theorem nthG_new {done rest : List Ky} {x : Ky} (h : x ∉ done) : (ddK done).length < (ddK (done ++ x :: rest)).length ∧ nthG (done ++ x :: rest) (ddK done).length = x := by
 have e : done ++ x :: rest = (done ++ [x]) ++ rest := by simp
 obtain ⟨r, hr⟩ := ddK_pre (done ++ [x]) rest
 rw [← e, ddK_snoc, if_neg h] at hr
 unfold nthG
 rw [hr]
 constructor
 ·simp
 ·rw [List.getD_eq_getElem?_getD]; simp
abbrev tKy : TypeId := 58
abbrev tMK : TypeId := 105
theorem laidOutG : laidOutB Tryd.prog = true := by kernel_rfl
theorem rowG : (tKy : TypeId) < Tryd.prog.types.size := of_decide_eq_true (by kernel_rfl)
theorem wideG : (match Tryd.prog.underlying tKy with | some (.array _ _) | some (.struct _) => true | _ => false) = true := by kernel_rfl
theorem lawKy : WideMaps.KeyLaw Tryd.prog tKy := deep_law_laid laidOutG (m := 4) (by omega) rowG (by kernel_rfl) wideG
theorem keyedG : Keyed Tryd.prog tKy := Keyed.of_law lawKy
theorem adB_extG {a b : Nat} (ha : a < 256 ^ 20) (hb : b < 256 ^ 20) (h : ∀ j, j < 20 → adB a j = adB b j) : a = b := by
 have e := eqA_iff ha hb
 rw [show eqA a b = true from List.all_eq_true.2 (fun j hj => by simpa using h j (List.mem_range.1 hj))] at e
 exact of_decide_eq_true e.symm
theorem mapM_some {α β : Type} {f : α → Option β} : ∀ (l : List α), (∀ x ∈ l, ∃ y, f x = some y) → ∃ ys, l.mapM f = some ys
 | [], _ => ⟨[], rfl⟩
 | a :: r, h => by
  obtain ⟨y, hy⟩ := h a (by simp)
  obtain ⟨ys, hys⟩ := mapM_some r (fun x hx => h x (by simp [hx]))
  exact ⟨y :: ys, by rw [List.mapM_cons, hy]; simp [hys]⟩
theorem lits_u8 (d : Nat) (n : Int) (h0 : 0 ≤ n) (h1 : n < 256) : ∃ L, Tryd.prog.keyLits (d + 1) 5 [.int .u8 n] = some L := by
 have hw : (Lit.int IntKind.u8 n).wf = true := by simp [Lit.wf, IntKind.min, IntKind.max, IntKind.signed, IntKind.bits]; omega
 exact ⟨[.int .u8 n], by unfold Program.keyLits; rw [Tryd.underlying5]; simp [hw]⟩
theorem lits_u64 (d : Nat) (n : Int) (h0 : 0 ≤ n) (h1 : n < 18446744073709551616) : ∃ L, Tryd.prog.keyLits (d + 1) 22 [.int .u64 n] = some L := by
 have hw : (Lit.int IntKind.u64 n).wf = true := by simp [Lit.wf, IntKind.min, IntKind.max, IntKind.signed, IntKind.bits]; omega
 exact ⟨[.int .u64 n], by unfold Program.keyLits; rw [Tryd.underlying22]; simp [hw]⟩
theorem cellsU8G : Tryd.prog.cellsOf 5 = 1 := by kernel_rfl
theorem cellsU64G : Tryd.prog.cellsOf 22 = 1 := by kernel_rfl
theorem cellsAdG : Tryd.prog.cellsOf 56 = 20 := by kernel_rfl
theorem cellsWdG : Tryd.prog.cellsOf 24 = 4 := by kernel_rfl
theorem cellsBoG : Tryd.prog.cellsOf 4 = 1 := by kernel_rfl
theorem cellsKyG : Tryd.prog.cellsOf 58 = 25 := by kernel_rfl
theorem one_at {l : List Value} {i : Nat} {v : Value} (h : l[i]? = some v) : (l.drop (i * 1)).take 1 = [v] := by
 have hi : i < l.length := (List.getElem?_eq_some_iff.1 h).1
 rw [Nat.mul_one, List.drop_eq_getElem_cons hi, List.take_succ_cons, List.take_zero]
 rw [List.getElem?_eq_getElem hi] at h
 rw [Option.some.inj h]
theorem lits_ad (d : Nat) (a : Nat) : ∃ L, Tryd.prog.keyLits (d + 1 + 1) 56 (adL a) = some L := by
 unfold Program.keyLits
 rw [Tryd.underlying56]
 simp only [cellsAdG, adL_len, if_true, cellsU8G]
 obtain ⟨ys, hys⟩ := mapM_some (f := fun i => Tryd.prog.keyLits (d + 1) 5 (((adL a).drop (i * 1)).take 1)) (List.range 20) (fun i hi => by
  have hi' := List.mem_range.1 hi
  rw [one_at (show (adL a)[i]? = some (.int .u8 ((adB a i : Nat) : Int)) by simp [adL, hi'])]
  have : adB a i < 256 := Nat.mod_lt _ (by decide)
  exact lits_u8 d _ (by omega) (by omega))
 exact ⟨ys.flatten, by rw [hys]; rfl⟩
theorem lits_wd (d : Nat) (z : Nat → Int) (hz : ∀ j, 0 ≤ z j ∧ z j < 18446744073709551616) : ∃ L, Tryd.prog.keyLits (d + 1 + 1) 24 [.int .u64 (z 0), .int .u64 (z 1), .int .u64 (z 2), .int .u64 (z 3)] = some L := by
 unfold Program.keyLits
 rw [Tryd.underlying24]
 simp only [cellsWdG, cellsU64G, List.length_cons, List.length_nil, Nat.reduceAdd, if_true]
 obtain ⟨ys, hys⟩ := mapM_some (f := fun i => Tryd.prog.keyLits (d + 1) 22 ((([.int .u64 (z 0), .int .u64 (z 1), .int .u64 (z 2), .int .u64 (z 3)] : List Value).drop (i * 1)).take 1)) (List.range 4) (fun i hi => by
  have hi' := List.mem_range.1 hi
  rw [one_at (show ([.int .u64 (z 0), .int .u64 (z 1), .int .u64 (z 2), .int .u64 (z 3)] : List Value)[i]? = some (.int .u64 (z i)) by
   rcases (show i = 0 ∨ i = 1 ∨ i = 2 ∨ i = 3 by omega) with rfl | rfl | rfl | rfl <;> rfl)]
  exact lits_u64 d _ (hz i).1 (hz i).2)
 exact ⟨ys.flatten, by rw [hys]; rfl⟩
theorem lits_bo (d : Nat) (b : Bool) : ∃ L, Tryd.prog.keyLits (d + 1) 4 [.bool b] = some L :=
 ⟨[.bool b], by unfold Program.keyLits; rw [Tryd.underlying4]⟩
theorem lits_ky (d : Nat) (x : Ky) : ∃ L, Tryd.prog.keyLits (d + 1 + 1 + 1) tKy (kyL x) = some L := by
 obtain ⟨La, ha⟩ := lits_ad d x.at_
 obtain ⟨Lb, hb⟩ := lits_bo (d + 1) x.slot
 obtain ⟨Lc, hc⟩ := lits_wd d (fun j => lim x.key j) (fun j => ⟨lim_lo x.key j, lim_hi x.key j⟩)
 unfold Program.keyLits
 rw [Tryd.underlying58]
 have e1 : ((kyL x).drop 0).take 20 = adL x.at_ := by unfold kyL; rw [List.drop_zero, List.take_append_of_le_length (by rw [adL_len]; omega), List.take_of_length_le (by rw [adL_len]; omega)]
 have e2 : ((kyL x).drop 20).take 1 = [.bool x.slot] := by unfold kyL; rw [List.drop_append_of_le_length (by rw [adL_len]; omega), List.drop_of_length_le (by rw [adL_len]; omega)]; rfl
 have e3 : ((kyL x).drop 21).take 4 = [.int .u64 (lim x.key 0), .int .u64 (lim x.key 1), .int .u64 (lim x.key 2), .int .u64 (lim x.key 3)] := by
  unfold kyL
  rw [show 21 = (adL x.at_).length + 1 by rw [adL_len], List.drop_append, List.drop_of_length_le (by omega)]
  simp
 simp only [cellsKyG, kyL_len, true_and]
 refine ⟨(([La, Lb, Lc] : List (List Lit))).flatten, ?_⟩
 simp only [cellsAdG, cellsBoG, cellsWdG, List.mapM_cons, List.mapM_nil, e1, e2, e3, ha, hb, hc]
 rw [if_pos (by decide +kernel)]
 rfl
theorem keyTypeG : Tryd.prog.keyType tKy = true := by kernel_rfl
theorem typesG : ∃ d, Tryd.prog.types.size + 1 = d + 1 + 1 + 1 := ⟨Tryd.prog.types.size - 2, by have h : 3 ≤ Tryd.prog.types.size := of_decide_eq_true (by kernel_rfl); omega⟩
theorem keyG_ex (x : Ky) : ∃ kl, keyOf Tryd.prog tKy (.agg (kyC x)) = some kl := by
 obtain ⟨d, hd⟩ := typesG
 obtain ⟨L, hL⟩ := lits_ky d x
 rw [← hd] at hL
 have hf : (Value.agg (kyC x)).formed Tryd.prog tKy = true := by
  unfold Value.formed
  rw [Tryd.underlying58]
  simp [cellsKyG, kyC_size]
 unfold keyOf
 rw [Tryd.underlying58]
 simp only [keyTypeG, hf, Bool.and_self, if_true]
 rw [show (Value.agg (kyC x)).cells.toList = kyL x by simp [Value.cells, kyC], hL]
 exact ⟨_, rfl⟩
noncomputable def keyG (x : Ky) : Lit := (keyG_ex x).choose
theorem keyG_of (x : Ky) : keyOf Tryd.prog tKy (.agg (kyC x)) = some (keyG x) := (keyG_ex x).choose_spec
theorem kyC_inj {x y : Ky} (hx : KyOk x) (hy : KyOk y) (h : kyC x = kyC y) : x = y := by
 have hl : kyL x = kyL y := by have := congrArg Array.toList h; simpa [kyC] using this
 obtain ⟨xa, xs, xk⟩ := x
 obtain ⟨ya, ys, yk⟩ := y
 have e1 : xa = ya := adB_extG hx.at_ hy.at_ (fun j hj => by
  have := congrArg (fun l : List Value => l[j]?) hl
  simp only [kyL_at _ j hj, Option.some.injEq, Value.int.injEq, true_and] at this
  omega)
 have e2 : ∀ j, ([.bool xs, .int .u64 (lim xk 0), .int .u64 (lim xk 1), .int .u64 (lim xk 2), .int .u64 (lim xk 3)] : List Value)[j]? = ([.bool ys, .int .u64 (lim yk 0), .int .u64 (lim yk 1), .int .u64 (lim yk 2), .int .u64 (lim yk 3)] : List Value)[j]? := fun j => by
  have := congrArg (fun l : List Value => l[20 + j]?) hl
  simpa only [kyL_more] using this
 have e3 : xs = ys := by have := e2 0; simpa using this
 have e4 : xk = yk := lim_ext hx.key hy.key (fun k hk => by
  rcases (show k = 0 ∨ k = 1 ∨ k = 2 ∨ k = 3 by omega) with rfl | rfl | rfl | rfl
  ·have := e2 1; simpa using this
  ·have := e2 2; simpa using this
  ·have := e2 3; simpa using this
  ·have := e2 4; simpa using this)
 rw [e1, e3, e4]
theorem keyG_inj {x y : Ky} (hx : KyOk x) (hy : KyOk y) (h : keyG x = keyG y) : x = y := by
 have h1 := keyG_of x
 rw [h] at h1
 have h2 := lawKy.inj h1 (keyG_of y)
 injection h2 with h2
 exact kyC_inj hx hy h2
theorem keyG_lit (x : Ky) : WideAt.IsKeyLit (keyG x) := keyedG.key (keyG_of x)
def MapK (w : World) (B n : Nat) (l : List Ky) : Prop := ∃ D : DataW Unit, w.ownsMap Tryd.prog tKy unitElem B n D ∧ ∀ x, KyOk x → Go.Maps.has D (keyG x) = decide (x ∈ l)
theorem MapK.made (w : World) : MapK (w.alloc (.map #[] 0)) w.heap.size 0 [] := ⟨_, World.ownsMap_made _ _ _ _, fun _ _ => by simp [Go.Maps.has]⟩
theorem MapK.lt {w : World} {B n : Nat} {l : List Ky} (h : MapK w B n l) : B < w.heap.size := by obtain ⟨D, h1, _⟩ := h; exact h1.lt
theorem MapK.block {w w' : World} {B n : Nat} {l : List Ky} (h : MapK w B n l) (hx : ∀ o, w.heap[B]? = some o → o.isWalk = true → w'.heap[B]? = some o) : MapK w' B n l := by
 obtain ⟨D, ⟨es, clock, h1, h3⟩, h2⟩ := h
 exact ⟨D, ⟨es, clock, hx _ h1 rfl, h3⟩, h2⟩
theorem MapK.below {w w' : World} {B n : Nat} {l : List Ky} (h : MapK w B n l) (hx : Below w.heap.size w w') : MapK w' B n l :=
 h.block (fun _o ho _ => (hx.block B h.lt).trans ho)
theorem MapK.mono {w : World} {B n n' : Nat} {l : List Ky} (h : MapK w B n l) (hn : n ≤ n') : MapK w B n' l := by obtain ⟨D, h1, h2⟩ := h; exact ⟨D, h1.mono hn, h2⟩
theorem MapK.congr {w : World} {B n : Nat} {l l' : List Ky} (h : MapK w B n l) (hl : ∀ x, x ∈ l ↔ x ∈ l') : MapK w B n l' := by
 obtain ⟨D, h1, h2⟩ := h
 exact ⟨D, h1, fun x hx => (h2 x hx).trans (decide_eq_decide.2 (hl x))⟩
theorem zeroUnitG (w : World) : (zeroValue 106).run Tryd.prog w = .ok (.agg #[]) w := by kernel_rfl
section
variable {F : Fence} {nF : Nat} (w : World) {ops : Array Oper} {rest : List Oper} {o : Oper} {a : Act} {Q : Exit → Act → World → Prop}
theorem wpListIn_lookK (hg : o.guard = none) (m k : Operand) (hop : o.op = Op.lookup tMK m k true) (B n : Nat) (l : List Ky) (hm : a.eval m = .map (some B)) (hown : MapK w B n l)
  (x : Ky) (hx : KyOk x) (hk : a.eval k = .agg (kyC x)) (b : Bool) (hb : decide (x ∈ l) = b) (hK : wpListIn F nF Tryd.prog ops Q rest (a.put o.dst (.tuple #[.agg #[], .bool b])) w) : wpListIn F nF Tryd.prog ops Q (o :: rest) a w := by
 obtain ⟨D, h1, h2⟩ := hown
 refine wpListIn_lookup_own_unit w hg m k tMK hop tKy 106 keyedG Tryd.underlying105 (zeroUnitG w) B n D hm h1 _ (keyG x) hk (keyG_of x) ?_
 rw [h2 x hx, hb]
 exact hK
theorem wpListIn_putK (hg : o.guard = none) (m k v : Operand) (hop : o.op = Op.mapUpdate tMK m k v) (B n : Nat) (l : List Ky) (hm : a.eval m = .map (some B)) (hown : MapK w B n l) (hn : n < 100000)
  (x : Ky) (hx : KyOk x) (hk : a.eval k = .agg (kyC x)) (hv : a.eval v = .agg #[])
  (hK : ∀ w', MapK w' B (n + 1) (l ++ [x]) → w.grownBy w' (some B) → wpListIn F nF Tryd.prog ops Q rest (a.put o.dst undef) w') : wpListIn F nF Tryd.prog ops Q (o :: rest) a w := by
 obtain ⟨D, h1, h2⟩ := hown
 refine wpListIn_mapUpdate_own w hg m k v tMK hop tKy 106 keyedG Tryd.underlying105 unitElem B n D hm h1 (Nat.lt_of_lt_of_le hn (by decide)) _ _ (keyG x) hk hv (keyG_of x) (.agg []) [] unitElem_mk ?_
 intro w' r1 r2
 refine hK w' ⟨_, r1, fun y hy => ?_⟩ r2
 by_cases he : y = x
 ·subst he
  rw [has_put_same h1.isMap (keyG_lit y)]
  simp
 ·rw [has_put_other (fun e => he (keyG_inj hy hx e)), h2 y hy]
  simp [he]
end
end
section
open Go Go.RowKit Go.Maps
attribute [local go_sem] Oper.semAt_some Grows wide_fn
theorem wpListIn_loadG {P : Program} {F : Fence} {n : Nat} {ops : Array Oper} {Q : Exit → Act → World → Prop} {a : Act} {w : World} {rest : List Oper} {o : Oper} (hF : Free F) (hg : o.guard = none) (ty : TypeId) (x : Operand) (ho : o.op = .load ty x) (p : Addr) (hx : a.eval x = .pointer (some p)) (v : Value) (hr : (loadVar ty p).run P w = .ok v w)
  (h : wpListIn F n P ops Q rest (a.put o.dst v) w) : wpListIn F n P ops Q (o :: rest) a w :=
 wpListIn_plain hg fun K hK => by
  unfold Oper.wpIn
  refine ⟨fun f _ => hF.fn f, ?_⟩
  rw [Oper.semAt_eq _ _ _ (by intro c; rw [ho]; simp)]
  unfold execOp
  simp only [ho, hx, Instr.loadAt, Instr.sureAddr, Sem.run_bind, Sem.run_pure, Result.andThen_ok, hr]
  exact hK _ _ h
theorem wpListIn_storeG {P : Program} {F : Fence} {n : Nat} {ops : Array Oper} {Q : Exit → Act → World → Prop} {a : Act} {w : World} {rest : List Oper} {o : Oper} (hF : Free F) (hg : o.guard = none) (ty : TypeId) (x y : Operand) (ho : o.op = .store ty x y) (B : Nat) (cells : Array Value)
  (hx : a.eval x = .pointer (some ⟨B, 0, none⟩)) (hy : a.eval y = .agg cells) (t : TypeId) (old : Array Value) (hh : Has w B t old) (hi : (P.info? ty).map (·.size) = some cells.size) (hold : old.size = cells.size) (h1 : cells.all (·.oneCell') = true)
  (h : wpListIn F n P ops Q rest (a.put o.dst undef) (w.setRow B cells)) : wpListIn F n P ops Q (o :: rest) a w :=
 wpListIn_plain hg fun K hK => by
  unfold Oper.wpIn
  refine ⟨fun f _ => hF.fn f, ?_⟩
  rw [Oper.semAt_eq _ _ _ (by intro c; rw [ho]; simp)]
  unfold execOp
  simp only [ho, hx, hy, Instr.storeAt, Instr.sureAddr, Sem.run_bind, Sem.run_pure, Result.andThen_ok, run_storeVar_row w B t ty old cells hh hi hold h1]
  exact hK _ _ h
def PauseG (p : Prop) : Prop := p
theorem wpListIn_putP {F : Fence} {nF : Nat} (w : World) {ops : Array Oper} {rest : List Oper} {o : Oper} {a : Act} {Q : Exit → Act → World → Prop} (hg : o.guard = none) (m k v : Operand) (hop : o.op = Op.mapUpdate tMK m k v) (B n : Nat) (l : List Ky) (hm : a.eval m = .map (some B)) (hown : MapK w B n l) (hn : n < 100000)
  (x : Ky) (hx : KyOk x) (hk : a.eval k = .agg (kyC x)) (hv : a.eval v = .agg #[])
  (hK : PauseG (∀ w', MapK w' B (n + 1) (l ++ [x]) → w.grownBy w' (some B) → wpListIn F nF Tryd.prog ops Q rest (a.put o.dst undef) w')) : wpListIn F nF Tryd.prog ops Q (o :: rest) a w :=
 wpListIn_putK w hg m k v hop B n l hm hown hn x hx hk hv hK
def KpO (b : Nat) (A X : World) : Prop := ∀ (i : Nat) (o : Obj), i ≠ b → A.heap[i]? = some o → (o.isCells = true ∨ o.isWalk = true) → X.heap[i]? = some o
theorem KpO.refl (b : Nat) (A : World) : KpO b A A := fun _ _ _ h _ => h
theorem KpO.trans {b : Nat} {A B C : World} (h : KpO b A B) (k : KpO b B C) : KpO b A C := fun i o hi ho hc => k i o hi (h i o hi ho hc) hc
theorem KpO.of {b : Nat} {A X : World} (h : Below A.heap.size A X) : KpO b A X := fun i _o _ ho _ => (h.block i (Array.getElem?_eq_some_iff.1 ho).1).trans ho
theorem KpO.grown {b : Nat} {w A X : World} {row : Option Nat} (h : KpO b w A) (hg : A.grownBy X row) (hr : ∀ r, row = some r → w.heap.size ≤ r) : KpO b w X := fun i o hi ho hc => by
 have h1 := h i o hi ho hc
 refine (hg.block i (Array.getElem?_eq_some_iff.1 h1).1 (fun e => ?_)).trans h1
 have := hr i e.symm
 have := (Array.getElem?_eq_some_iff.1 ho).1
 omega
theorem KpO.b {b : Nat} {w : World} (W : World) (l : Nat) (o o' : Obj) (_ : w.heap.size ≤ l) (h1 : W.heap[l]? = some o) (h2 : o.isCells = false) (h3 : o.isWalk = false) : KpO b W (W.putObj l o') := fun i oi _ hoi hc => by
 refine (World.putObj_heap_other (fun e => ?_)).trans hoi
 subst e
 rw [h1] at hoi
 cases hoi
 rcases hc with hc | hc
 ·rw [h2] at hc; cases hc
 ·rw [h3] at hc; cases hc
theorem KpO.has {b B : Nat} {A X : World} {t : TypeId} {cs : Array Value} (h : KpO b A X) (hB : Has A B t cs) (hne : B ≠ b) : Has X B t cs := h B _ hne hB (.inl rfl)
theorem KpO.mapK {b B n : Nat} {A X : World} {l : List Ky} (h : KpO b A X) (hB : MapK A B n l) (hne : B ≠ b) : MapK X B n l := hB.block (fun o ho hw => h B o hne ho (.inr hw))
theorem MapK.isW {w : World} {B n : Nat} {l : List Ky} (h : MapK w B n l) : ∃ o : Obj, w.heap[B]? = some o ∧ o.isWalk = true := by
 obtain ⟨D, ⟨es, clock, h1, _⟩, _⟩ := h
 exact ⟨_, h1, rfl⟩
structure OnSt (J : Nat → World → Prop) (b M : Nat) (w : World) (done : List Ky) (X : World) : Prop where
 J : J (ddK done).length X
 K : KpO b w X
 M : MapK X M done.length done
theorem once_mk (W : World) (a : Option Addr) (n m : Nat) : Calls Tryd.prog 56 #[.slice a n m] W fun e w' => e = .returned (.func (.func 76) #[] #[.pointer (some ⟨W.heap.size, 0, none⟩)]) ∧ w' = W.alloc (.cells #[.slice a n m] 81) := by
 go_enter Tryd.func56, Tryd.ntmps56
 go_wp2
 go_ret
 exact ⟨rfl, rfl⟩
theorem kyZero : ∃ zs : Array Value, zs = #[.int .u8 0, .int .u8 0, .int .u8 0, .int .u8 0, .int .u8 0, .int .u8 0, .int .u8 0, .int .u8 0, .int .u8 0, .int .u8 0, .int .u8 0, .int .u8 0, .int .u8 0, .int .u8 0, .int .u8 0, .int .u8 0, .int .u8 0, .int .u8 0, .int .u8 0, .int .u8 0, .bool false, .int .u64 0, .int .u64 0, .int .u64 0, .int .u64 0] := ⟨_, rfl⟩
theorem below_rowG {B g : Nat} {w0 w : World} (hb : Below B w0 w) (hBg : B ≤ g) (cs : Array Value) : Below B w0 (w.setRow g cs) :=
 ⟨hb.os, hb.tape, hb.output, by show _ ≤ (w.heap.modify g _).size; rw [Array.size_modify]; exact hb.size, fun k hk => by
  refine Eq.trans ?_ (hb.block k hk)
  show (w.heap.modify g _)[k]? = _
  rw [Array.getElem?_modify, if_neg (by omega)]⟩
theorem once_seq (n : Nat) (hn : 1 ≤ n) (b BL g : Nat) (rv sv : Value) (r s : List Ky) (w : World) (hb : b < w.heap.size) (hL : Has w BL 81 #[.slice (some ⟨g, 0, none⟩) 2 2]) (hG : Has w g 28 #[rv, sv]) (hBL : BL ≠ b) (hGb : g ≠ b)
  (hr : ∀ X, KpO b w X → KeysAt X rv r) (hs : ∀ X, KpO b w X → KeysAt X sv s) (hrl : r.length + s.length ≤ 50000) :
  SeqN Fence.wide n Tryd.prog 76 #[.pointer (some ⟨BL, 0, none⟩)] (fun k => #[.agg (kyC (nthG (r ++ s) k))]) (KpO b) (ddK (r ++ s)).length w := by
 intro l J Jx W hW hJA _ hY h0
 have hKW : KpO b w W := KpO.of hW
 obtain ⟨ra, rc, rfl, _, hrm⟩ := (hr w (KpO.refl _ _)).shape
 obtain ⟨sa, sc, rfl, _, hsm⟩ := (hs w (KpO.refl _ _)).shape
 obtain ⟨M, hM⟩ : ∃ M, W.heap.size = M := ⟨_, rfl⟩
 have hm0 : MapK (W.alloc (.map #[] 0)) M 0 [] := hM ▸ MapK.made W
 have q1 := (Below.refl W.heap.size W).alloc (Nat.le_refl _) (.map #[] 0)
 obtain ⟨W1, hW1⟩ : ∃ W1, W.alloc (.map #[] 0) = W1 := ⟨_, rfl⟩
 rw [hW1] at hm0 q1
 have HST0 := hid (show OnSt J b M w [] W1 from ⟨hJA _ W W1 none h0 (grown_of_below q1 none) (fun r e => by cases e), hKW.grown (grown_of_below q1 none) (fun r e => by cases e), hm0⟩)
 have HA := hid hJA
 have HY := hid hY
 have HKSr := hid hr
 have HKSs := hid hs
 have HL := hid hL
 have HG := hid hG
 have HMW := hid (show W.heap.size ≤ M by omega)
 have HWW := hid hW.size
 have HB := hid (And.intro hBL (And.intro hGb (show M ≠ b by have := hW.size; omega)))
 have HRS := hid hrl
 obtain ⟨rn, hrn⟩ : ∃ rn, r.length = rn := ⟨_, rfl⟩
 obtain ⟨sn, hsn⟩ : ∃ sn, s.length = sn := ⟨_, rfl⟩
 have HRN := hid (And.intro hrn (show rn ≤ 50000 by omega))
 have HSN0 := hid (And.intro hsn (show sn ≤ 50000 by omega))
 rw [hrn] at HKSr HG
 rw [hsn] at HKSs HG
 have c0 := ((HST0.out.K).has hL hBL).cell 0 _ rfl
 rw [← hW1] at c0
 have HW1 := hid hW1
 have hmm := @run_makeMap Tryd.prog
 clear hJA hY h0 hr hs hG hL hW hKW q1 hBL hGb hb hrl hrn hsn hm0 hrm hsm hW1
 refine callsIn_of_wp Tryd.func76 rfl trivial ?_ rfl
 simp only [Tryd.ntmps76, List.size_toArray, List.length_cons, List.length_nil, Nat.reduceAdd, Nat.reduceSub, Array.replicate_succ, Array.replicate_zero, List.push_toArray, List.append_toArray, List.nil_append, List.cons_append]
 gi_wp2_with fail
 rw [HW1.out]
 clear c0 hmm HW1 hM
 gi_loopw [13] (fun i wr => (i = .int .i64 0 ∧ OnSt J b M w [] wr) ∨ (i = .int .i64 1 ∧ OnSt J b M w r wr) ∨ (i = .int .i64 2 ∧ OnSt J b M w (r ++ s) wr)) (fun i _ => 2 - (intOf i).toNat)
 case atStart => exact .inl ⟨rfl, HST0.out⟩
 case round =>
  clear HST0
  rcases hrel with hj | hj | hj
  ·skip
   obtain ⟨rfl, hst⟩ := hj
   have hks := HKSr.out wr hst.K
   have HST := hid hst
   have c0 := (hst.K.has HL.out HB.out.1).cell 0 _ rfl
   have c1 := (hst.K.has HG.out HB.out.2.1).cell 0 _ rfl
   clear hst
   gi_wp2_with fail
   clear c0 c1
   gi_loopw [19] (fun i wr => ∃ q : Nat, q ≤ rn ∧ i = .int .i64 (q : Int) ∧ OnSt J b M w ([] ++ r.take q) wr) (fun i _ => rn - (intOf i).toNat)
   case atStart => exact ⟨0, Nat.zero_le _, rfl, by simpa using HST.out⟩
   case round =>
    obtain ⟨q, hq, rfl, hst⟩ := hrel
    clear HST
    by_cases hqn : q < rn
    ·obtain ⟨x, hx⟩ : ∃ x, r[q]? = some x := ⟨_, List.getElem?_eq_getElem (by have := HRN.out; omega)⟩
     have q0 : (0 : Int) ≤ (q : Int) := by omega
     have q1 : (q : Int) < (rn : Int) := by omega
     have q2 : (q : Int) ≤ 100000 := by have := HRN.out; omega
     have hkx := HKSr.out wr hst.K
     have hok := hkx.ok hx
     obtain ⟨b0, e0, hin⟩ := hkx.at hx
     subst e0
     have hld := hin.load
     have htake : r.take (q + 1) = r.take q ++ [x] := by rw [List.take_add_one, hx]; rfl
     have hdrop : r = r.take q ++ x :: r.drop (q + 1) := by
      have h1 := List.take_append_drop q r
      rw [List.drop_eq_getElem_cons (by have := HRN.out; omega)] at h1
      rw [List.getElem?_eq_getElem (by have := HRN.out; omega)] at hx
      rw [Option.some.inj hx] at h1
      exact h1.symm
     obtain ⟨done, hdone⟩ : ∃ done, [] ++ r.take q = done := ⟨_, rfl⟩
     rw [hdone] at hst
     have hlen : done.length ≤ 50000 := by rw [← hdone]; have := HRS.out; have := HRN.out; have := List.length_take_le' q r; simp; try omega
     have hnext : [] ++ r.take (q + 1) = done ++ [x] := by rw [htake, ← List.append_assoc, hdone]
     have hall : r ++ s = done ++ x :: (r.drop (q + 1) ++ s) := by
      rw [← hdone]
      rw [List.nil_append, ← List.cons_append, ← List.append_assoc, ← hdrop]
     obtain ⟨zs, hzs⟩ := kyZero
     have h42 := Has.new wr tKy zs
     have hq3 := newA wr (.cells zs tKy)
     obtain ⟨V0, hV0⟩ : ∃ V0, wr.alloc (.cells zs tKy) = V0 := ⟨_, rfl⟩
     rw [hV0] at h42 hq3
     have h5 : Has (V0.setRow wr.heap.size (kyC x)) wr.heap.size tKy (kyC x) := setRow_heap _ _ _ _ _ _ h42
     have qb := below_rowG hq3 (g := wr.heap.size) (Nat.le_refl _) (kyC x)
     have hi5 : (Tryd.prog.info? tKy).map (·.size) = some (kyC x).size := by rw [kyC_size]; exact infoKy
     have ho5 : zs.size = (kyC x).size := by rw [kyC_size, hzs]; rfl
     have ha5 : (kyC x).all (·.oneCell') = true := by
      rw [Array.all_eq_true]
      intro i hi
      exact kyL_one x _ (by simp only [kyC, List.getElem_toArray]; exact List.getElem_mem _)
     rw [hzs] at h42 ho5 hV0
     obtain ⟨V1, hV1⟩ : ∃ V1, V0.setRow wr.heap.size (kyC x) = V1 := ⟨_, rfl⟩
     rw [hV1] at h5 qb
     have hb2 := newA V1 (.cells #[] 106)
     obtain ⟨V2, hV2⟩ : ∃ V2, V1.alloc (.cells #[] 106) = V2 := ⟨_, rfl⟩
     rw [hV2] at hb2
     have hl1 := h5.kyLoad
     have h52 := h5.later hb2
     have hl2 := h52.kyLoad
     have qb2 := qb.trans (hb2.mono qb.size)
     have hJ2 := HA.out _ wr V2 none hst.J (grown_of_below qb2 none) (fun r e => by cases e)
     have hK2 := hst.K.grown (grown_of_below qb2 none) (fun r e => by cases e)
     have hM1 := hst.M.below qb
     have hM2 := hM1.below hb2
     have HX := hid (And.intro hqn (And.intro hnext (And.intro hall (And.intro hlen h52))))
     clear hst hx hq hqn hkx hin htake hdrop hdone hlen hnext hall hq3 qb hb2 h5 qb2
     by_cases hmem : x ∈ done
     ·have hdec : decide (x ∈ done) = true := decide_eq_true hmem
      have HSN := hid (show OnSt J b M w (done ++ [x]) V2 from ⟨by rw [ddK_snoc, if_pos hmem]; exact hJ2, hK2, (hM2.congr (fun y => by simp; intro h; exact h ▸ hmem)).mono (by simp)⟩)
      have HDEC := hid hdec
      have HM1 := hid hM1
      have HOK := hid hok
      clear hmem hJ2 hK2 hM2 hl2 hdec hM1 hok
      gi_wp2_with (first | (refine wpListIn_loadG free_wide rfl _ (.tmp 21) rfl _ rfl _ hld ?_) | (refine wpListIn_storeG free_wide rfl _ (.tmp 7) (.tmp 22) rfl _ _ rfl rfl _ _ h42 hi5 ho5 ha5 ?_; rw [hV1]) | (refine wpListIn_loadG free_wide rfl _ (.tmp 7) rfl _ rfl _ hl1 ?_) | (refine wpListIn_lookK _ rfl (.tmp 24) (.tmp 25) rfl M _ done rfl HM1.out x HOK.out rfl true HDEC.out ?_))
      go_roundw
      case rel => exact ⟨q + 1, by have := HX.out.1; omega, by simp, by rw [HX.out.2.1]; exact HSN.out⟩
      case measure => have := HX.out.1; simp [intOf]; omega
     ·have hdec : decide (x ∈ done) = false := decide_eq_false hmem
      have hnew := nthG_new (rest := r.drop (q + 1) ++ s) hmem
      rw [← HX.out.2.2.1] at hnew
      have HDEC := hid hdec
      have HM1 := hid hM1
      have HM2 := hid hM2
      have HOK := hid hok
      have HJ2 := hid hJ2
      have HK2 := hid hK2
      have HNEW := hid hnew
      have HMEM := hid hmem
      clear hmem hJ2 hK2 hM2 hdec hM1 hok hnew
      gi_wp2_with (first | (refine wpListIn_loadG free_wide rfl _ (.tmp 21) rfl _ rfl _ hld ?_) | (refine wpListIn_storeG free_wide rfl _ (.tmp 7) (.tmp 22) rfl _ _ rfl rfl _ _ h42 hi5 ho5 ha5 ?_; rw [hV1]) | (refine wpListIn_loadG free_wide rfl _ (.tmp 7) rfl _ rfl _ hl1 ?_) | (refine wpListIn_loadG free_wide rfl _ (.tmp 7) rfl _ rfl _ hl2 ?_) | (refine wpListIn_lookK _ rfl (.tmp 24) (.tmp 25) rfl M _ done rfl HM1.out x HOK.out rfl false HDEC.out ?_) | (refine wpListIn_putP _ rfl (.tmp 30) (.tmp 31) (.tmp 32) rfl M _ done rfl HM2.out (by have := HX.out.2.2.2.1; omega) x HOK.out rfl rfl ?_))
      unfold PauseG
      intro V3 hm3 hg3
      have hJ3 := HA.out _ V2 V3 (some M) HJ2.out hg3 (fun r e => by cases e; exact ⟨HMW.out, HM2.out.isW⟩)
      have hK3 := HK2.out.grown hg3 (fun r e => by cases e; exact Nat.le_trans HWW.out HMW.out)
      have h53 : Has V3 _ tKy (kyC x) := (hg3.block _ HX.out.2.2.2.2.lt (fun e => by have h1 := HX.out.2.2.2.2; obtain ⟨o, ho, hw⟩ := HM2.out.isW; rw [show (M : Nat) = _ from Option.some.inj e.symm] at ho; unfold Has at h1; rw [h1] at ho; cases ho; cases hw)).trans HX.out.2.2.2.2
      have hl3 := h53.kyLoad
      have hy0 := HY.out _ V3 HNEW.out.1 hJ3
      rw [HNEW.out.2] at hy0
      obtain ⟨fn, tmps, assign, body, hy, hR⟩ := hy0
      have HM3 := hid hm3
      have HK3 := hid hK3
      clear hm3 hg3 hJ3 hK3 h53 hld h42 hi5 ho5 ha5 hl1 hl2 hV0 hV1 hV2
      gi_wp2_with (refine wpListIn_loadG free_wide rfl _ (.tmp 7) rfl _ rfl _ hl3 ?_)
      refine hR.mono ?_
      rintro e W3 (⟨rfl, hJ4, hk4⟩ | ⟨rfl, hJx4⟩)
      ·have HSN := hid (show OnSt J b M w (done ++ [x]) W3 from ⟨by rw [ddK_snoc, if_neg HMEM.out, List.length_append]; exact hJ4, HK3.out.trans hk4, (hk4.mapK HM3.out HB.out.2.2).mono (by simp)⟩)
       clear hJ4 hk4 hy hR hl3
       gi_wp2_with fail
       go_roundw
       case rel => exact ⟨q + 1, by have := HX.out.1; omega, by simp, by rw [HX.out.2.1]; exact HSN.out⟩
       case measure => have := HX.out.1; simp [intOf]; omega
      ·have hE := hid hJx4
       clear hy hR hJx4 hl3
       gi_wp2_with fail
       refine bodyPost_ret (results_none rfl _ _ _) rfl ?_
       exact ⟨⟨_, rfl⟩, .inr ⟨_, HNEW.out.1, hE.out⟩⟩
    ·obtain rfl : q = rn := by omega
     have HST := hid hst
     clear hst hqn
     gi_wp2_with fail
     go_roundw
     case rel => exact .inr (.inl ⟨rfl, by have h := HST.out; rw [← HRN.out.1, List.take_length] at h; simpa using h⟩)
     case measure => simp [intOf]
  ·skip
   obtain ⟨rfl, hst⟩ := hj
   have hks := HKSs.out wr hst.K
   have HST := hid hst
   have c0 := (hst.K.has HL.out HB.out.1).cell 0 _ rfl
   have c1 := (hst.K.has HG.out HB.out.2.1).cell 1 _ rfl
   clear hst
   gi_wp2_with fail
   clear c0 c1
   gi_loopw [19] (fun i wr => ∃ q : Nat, q ≤ sn ∧ i = .int .i64 (q : Int) ∧ OnSt J b M w (r ++ s.take q) wr) (fun i _ => sn - (intOf i).toNat)
   case atStart => exact ⟨0, Nat.zero_le _, rfl, by simpa using HST.out⟩
   case round =>
    obtain ⟨q, hq, rfl, hst⟩ := hrel
    clear HST
    by_cases hqn : q < sn
    ·obtain ⟨x, hx⟩ : ∃ x, s[q]? = some x := ⟨_, List.getElem?_eq_getElem (by have := HSN0.out; omega)⟩
     have q0 : (0 : Int) ≤ (q : Int) := by omega
     have q1 : (q : Int) < (sn : Int) := by omega
     have q2 : (q : Int) ≤ 100000 := by have := HSN0.out; omega
     have hkx := HKSs.out wr hst.K
     have hok := hkx.ok hx
     obtain ⟨b0, e0, hin⟩ := hkx.at hx
     subst e0
     have hld := hin.load
     have htake : s.take (q + 1) = s.take q ++ [x] := by rw [List.take_add_one, hx]; rfl
     have hdrop : s = s.take q ++ x :: s.drop (q + 1) := by
      have h1 := List.take_append_drop q s
      rw [List.drop_eq_getElem_cons (by have := HSN0.out; omega)] at h1
      rw [List.getElem?_eq_getElem (by have := HSN0.out; omega)] at hx
      rw [Option.some.inj hx] at h1
      exact h1.symm
     obtain ⟨done, hdone⟩ : ∃ done, r ++ s.take q = done := ⟨_, rfl⟩
     rw [hdone] at hst
     have hlen : done.length ≤ 50000 := by rw [← hdone]; have := HRS.out; have := HSN0.out; have := List.length_take_le' q s; simp; try omega
     have hnext : r ++ s.take (q + 1) = done ++ [x] := by rw [htake, ← List.append_assoc, hdone]
     have hall : r ++ s = done ++ x :: (s.drop (q + 1) ++ []) := by
      rw [← hdone]
      rw [List.append_nil, List.append_assoc, ← hdrop]
     obtain ⟨zs, hzs⟩ := kyZero
     have h42 := Has.new wr tKy zs
     have hq3 := newA wr (.cells zs tKy)
     obtain ⟨V0, hV0⟩ : ∃ V0, wr.alloc (.cells zs tKy) = V0 := ⟨_, rfl⟩
     rw [hV0] at h42 hq3
     have h5 : Has (V0.setRow wr.heap.size (kyC x)) wr.heap.size tKy (kyC x) := setRow_heap _ _ _ _ _ _ h42
     have qb := below_rowG hq3 (g := wr.heap.size) (Nat.le_refl _) (kyC x)
     have hi5 : (Tryd.prog.info? tKy).map (·.size) = some (kyC x).size := by rw [kyC_size]; exact infoKy
     have ho5 : zs.size = (kyC x).size := by rw [kyC_size, hzs]; rfl
     have ha5 : (kyC x).all (·.oneCell') = true := by
      rw [Array.all_eq_true]
      intro i hi
      exact kyL_one x _ (by simp only [kyC, List.getElem_toArray]; exact List.getElem_mem _)
     rw [hzs] at h42 ho5 hV0
     obtain ⟨V1, hV1⟩ : ∃ V1, V0.setRow wr.heap.size (kyC x) = V1 := ⟨_, rfl⟩
     rw [hV1] at h5 qb
     have hb2 := newA V1 (.cells #[] 106)
     obtain ⟨V2, hV2⟩ : ∃ V2, V1.alloc (.cells #[] 106) = V2 := ⟨_, rfl⟩
     rw [hV2] at hb2
     have hl1 := h5.kyLoad
     have h52 := h5.later hb2
     have hl2 := h52.kyLoad
     have qb2 := qb.trans (hb2.mono qb.size)
     have hJ2 := HA.out _ wr V2 none hst.J (grown_of_below qb2 none) (fun r e => by cases e)
     have hK2 := hst.K.grown (grown_of_below qb2 none) (fun r e => by cases e)
     have hM1 := hst.M.below qb
     have hM2 := hM1.below hb2
     have HX := hid (And.intro hqn (And.intro hnext (And.intro hall (And.intro hlen h52))))
     clear hst hx hq hqn hkx hin htake hdrop hdone hlen hnext hall hq3 qb hb2 h5 qb2
     by_cases hmem : x ∈ done
     ·have hdec : decide (x ∈ done) = true := decide_eq_true hmem
      have HSN := hid (show OnSt J b M w (done ++ [x]) V2 from ⟨by rw [ddK_snoc, if_pos hmem]; exact hJ2, hK2, (hM2.congr (fun y => by simp; intro h; exact h ▸ hmem)).mono (by simp)⟩)
      have HDEC := hid hdec
      have HM1 := hid hM1
      have HOK := hid hok
      clear hmem hJ2 hK2 hM2 hl2 hdec hM1 hok
      gi_wp2_with (first | (refine wpListIn_loadG free_wide rfl _ (.tmp 21) rfl _ rfl _ hld ?_) | (refine wpListIn_storeG free_wide rfl _ (.tmp 7) (.tmp 22) rfl _ _ rfl rfl _ _ h42 hi5 ho5 ha5 ?_; rw [hV1]) | (refine wpListIn_loadG free_wide rfl _ (.tmp 7) rfl _ rfl _ hl1 ?_) | (refine wpListIn_lookK _ rfl (.tmp 24) (.tmp 25) rfl M _ done rfl HM1.out x HOK.out rfl true HDEC.out ?_))
      go_roundw
      case rel => exact ⟨q + 1, by have := HX.out.1; omega, by simp, by rw [HX.out.2.1]; exact HSN.out⟩
      case measure => have := HX.out.1; simp [intOf]; omega
     ·have hdec : decide (x ∈ done) = false := decide_eq_false hmem
      have hnew := nthG_new (rest := s.drop (q + 1) ++ []) hmem
      rw [← HX.out.2.2.1] at hnew
      have HDEC := hid hdec
      have HM1 := hid hM1
      have HM2 := hid hM2
      have HOK := hid hok
      have HJ2 := hid hJ2
      have HK2 := hid hK2
      have HNEW := hid hnew
      have HMEM := hid hmem
      clear hmem hJ2 hK2 hM2 hdec hM1 hok hnew
      gi_wp2_with (first | (refine wpListIn_loadG free_wide rfl _ (.tmp 21) rfl _ rfl _ hld ?_) | (refine wpListIn_storeG free_wide rfl _ (.tmp 7) (.tmp 22) rfl _ _ rfl rfl _ _ h42 hi5 ho5 ha5 ?_; rw [hV1]) | (refine wpListIn_loadG free_wide rfl _ (.tmp 7) rfl _ rfl _ hl1 ?_) | (refine wpListIn_loadG free_wide rfl _ (.tmp 7) rfl _ rfl _ hl2 ?_) | (refine wpListIn_lookK _ rfl (.tmp 24) (.tmp 25) rfl M _ done rfl HM1.out x HOK.out rfl false HDEC.out ?_) | (refine wpListIn_putP _ rfl (.tmp 30) (.tmp 31) (.tmp 32) rfl M _ done rfl HM2.out (by have := HX.out.2.2.2.1; omega) x HOK.out rfl rfl ?_))
      unfold PauseG
      intro V3 hm3 hg3
      have hJ3 := HA.out _ V2 V3 (some M) HJ2.out hg3 (fun r e => by cases e; exact ⟨HMW.out, HM2.out.isW⟩)
      have hK3 := HK2.out.grown hg3 (fun r e => by cases e; exact Nat.le_trans HWW.out HMW.out)
      have h53 : Has V3 _ tKy (kyC x) := (hg3.block _ HX.out.2.2.2.2.lt (fun e => by have h1 := HX.out.2.2.2.2; obtain ⟨o, ho, hw⟩ := HM2.out.isW; rw [show (M : Nat) = _ from Option.some.inj e.symm] at ho; unfold Has at h1; rw [h1] at ho; cases ho; cases hw)).trans HX.out.2.2.2.2
      have hl3 := h53.kyLoad
      have hy0 := HY.out _ V3 HNEW.out.1 hJ3
      rw [HNEW.out.2] at hy0
      obtain ⟨fn, tmps, assign, body, hy, hR⟩ := hy0
      have HM3 := hid hm3
      have HK3 := hid hK3
      clear hm3 hg3 hJ3 hK3 h53 hld h42 hi5 ho5 ha5 hl1 hl2 hV0 hV1 hV2
      gi_wp2_with (refine wpListIn_loadG free_wide rfl _ (.tmp 7) rfl _ rfl _ hl3 ?_)
      refine hR.mono ?_
      rintro e W3 (⟨rfl, hJ4, hk4⟩ | ⟨rfl, hJx4⟩)
      ·have HSN := hid (show OnSt J b M w (done ++ [x]) W3 from ⟨by rw [ddK_snoc, if_neg HMEM.out, List.length_append]; exact hJ4, HK3.out.trans hk4, (hk4.mapK HM3.out HB.out.2.2).mono (by simp)⟩)
       clear hJ4 hk4 hy hR hl3
       gi_wp2_with fail
       go_roundw
       case rel => exact ⟨q + 1, by have := HX.out.1; omega, by simp, by rw [HX.out.2.1]; exact HSN.out⟩
       case measure => have := HX.out.1; simp [intOf]; omega
      ·have hE := hid hJx4
       clear hy hR hJx4 hl3
       gi_wp2_with fail
       refine bodyPost_ret (results_none rfl _ _ _) rfl ?_
       exact ⟨⟨_, rfl⟩, .inr ⟨_, HNEW.out.1, hE.out⟩⟩
    ·obtain rfl : q = sn := by omega
     have HST := hid hst
     clear hst hqn
     gi_wp2_with fail
     go_roundw
     case rel => exact .inr (.inr ⟨rfl, by have h := HST.out; rw [← HSN0.out.1, List.take_length] at h; exact h⟩)
     case measure => simp [intOf]
  ·obtain ⟨rfl, hst⟩ := hj
   have HST := hid hst
   clear hst
   gi_wp2_with fail
   go_end0
   exact ⟨⟨_, rfl⟩, .inl HST.out.J⟩
def costK (k : Ky) : Nat := if k.slot then 1900 else 2400
theorem costK_le (k : Ky) : costK k ≤ 2400 := by unfold costK; split <;> omega
def costKs : List Ky → Nat
 | [] => 0
 | k :: r => costK k + costKs r
theorem costKs_app : ∀ a b : List Ky, costKs (a ++ b) = costKs a + costKs b
 | [], b => by simp [costKs]
 | k :: r, b => by rw [List.cons_append, costKs, costKs, costKs_app r b, Nat.add_assoc]
theorem costKs_le : ∀ l : List Ky, costKs l ≤ 2400 * l.length
 | [] => Nat.le_refl _
 | k :: r => by have := costKs_le r; have := costK_le k; rw [costKs, List.length_cons]; omega
def declN (r s : List Ky) : Nat := costKs (ddK (r ++ s))
theorem nthG_at {l : List Ky} {k : Nat} (h : k < (ddK l).length) : (ddK l)[k]? = some (nthG l k) := by
 unfold nthG
 rw [List.getD_eq_getElem?_getD, List.getElem?_eq_getElem h]
 rfl
theorem costKs_step {l : List Ky} {k : Nat} (h : k < (ddK l).length) : costKs ((ddK l).take (k + 1)) = costKs ((ddK l).take k) + costK (nthG l k) := by
 rw [List.take_add_one, nthG_at h, costKs_app]
 rfl
theorem ofKey_ret (a : Ky) : Ret Tryd.prog 57 #[.agg (kyC a)] (.int .i64 (costK a : Int)) := by
 intro W
 have K1 := Has.new W 58 (kyC a)
 have q0 := newA W (.cells (kyC a) 58)
 obtain ⟨V, hV⟩ : ∃ V, W.alloc (.cells (kyC a) 58) = V := ⟨_, rfl⟩
 rw [hV] at K1 q0
 obtain ⟨a0, _, _, _, _⟩ := K1.ky
 have Q := hid q0
 unfold costK
 generalize kyC a = cs at *
 obtain ⟨_, sa, ka⟩ := a
 simp only at a0 ⊢
 clear q0 K1
 cases sa
 ·go_enter Tryd.func57, Tryd.ntmps57
  go_wp2_with fail
  go_ret
  exact ⟨rfl, Q.out⟩
 ·go_enter Tryd.func57, Tryd.ntmps57
  go_wp2_with fail
  go_ret
  exact ⟨rfl, Q.out⟩
theorem KpO.set {b : Nat} {A X : World} (h : KpO b A X) (k : Nat) (v : Value) : KpO b A (X.setCell ⟨b, k, none⟩ v) := fun i o hi ho hc => (Below.heap_setCell X ⟨b, k, none⟩ v i hi).trans (h i o hi ho hc)
theorem lt_of_cellG {w : World} {p : Addr} {u : Value} (h : w.cell? p = some u) : p.block < w.heap.size := by
 rcases Nat.lt_or_ge p.block w.heap.size with h1 | h1
 ·exact h1
 ·unfold World.cell? at h
  rw [Array.getElem?_eq_none h1] at h
  cases h
theorem keys_kept {b : Nat} {W w X : World} {v : Value} {l : List Ky} (h : KeysAt W v l) (hw : Below W.heap.size W w) (hb : W.heap.size ≤ b) (hk : KpO b w X) : KeysAt X v l := h.keep fun p u hp => by
 have hlt := lt_of_cellG hp
 refine (World.cell?_of_block (w := W) ?_).trans hp
 have h1 := hw.block p.block hlt
 unfold World.cell? at hp
 cases ho : W.heap[p.block]? with
 | none => rw [ho] at hp; cases hp
 | some o =>
  rw [ho] at hp h1
  cases o with
  | cells c t f => exact hk p.block _ (by omega) h1 (.inl rfl)
  | _ => cases hp
structure SuK (W : World) (B fc : Nat) (v : Int) (X : World) : Prop where
 F : Has X B 80 #[.func (.func fc) #[] #[]]
 S : Has X (B + 1) 3 #[.int .i64 v]
 Q : Below B W X
theorem SuK.own {W : World} {B fc n : Nat} {v : Nat → Int} (hn : B + 2 ≤ n) : OwnFrom n (fun k X => SuK W B fc (v k) X) := fun k X Y row h hg hr =>
 ⟨h.F.grownG hg (fun r e => (hr r e).2), h.S.grownG hg (fun r e => (hr r e).2), below_grownG h.Q hg (by have := h.S.lt; omega) (fun r e => by have := (hr r e).1; omega)⟩
theorem SuK.later {W X Y : World} {B fc : Nat} {v : Int} (h : SuK W B fc v X) (hb : Below X.heap.size X Y) : SuK W B fc v Y :=
 ⟨h.F.later hb, h.S.later hb, h.Q.trans (hb.mono (by have := h.S.lt; omega))⟩
theorem sum_keys (W : World) (BL g : Nat) (rv sv : Value) (r s : List Ky) (hL : Has W BL 81 #[.slice (some ⟨g, 0, none⟩) 2 2]) (hG : Has W g 28 #[rv, sv]) (hr : KeysAt W rv r) (hs : KeysAt W sv s) (hrl : r.length + s.length ≤ 50000) :
  Calls Tryd.prog 55 #[.func (.func 76) #[] #[.pointer (some ⟨BL, 0, none⟩)], .func (.func 57) #[] #[]] W fun e w' => e = .returned (.int .i64 (declN r s : Int)) ∧ Below W.heap.size W w' := by
 have hmx : Tryd.prog.follows .mixedOrders = true := by kernel_rfl
 refine (callsIn_wide (n := 6)).1 ?_
 obtain ⟨B, hB⟩ : ∃ B, W.heap.size = B := ⟨_, rfl⟩
 obtain ⟨W1, hW1⟩ : ∃ W1, W.alloc (.cells #[.func (.func 57) #[] #[]] 80) = W1 := ⟨_, rfl⟩
 obtain ⟨W2, hW2⟩ : ∃ W2, W1.alloc (.cells #[.int .i64 0] 3) = W2 := ⟨_, rfl⟩
 have q1 : Below W.heap.size W W1 := hW1 ▸ (Below.refl _ W).alloc (Nat.le_refl _) _
 have q2 : Below W1.heap.size W1 W2 := hW2 ▸ (Below.refl _ W1).alloc (Nat.le_refl _) _
 have q12 := q1.trans (q2.mono q1.size)
 have z1 : W1.heap.size = B + 1 := by rw [← hW1]; simp [hB]
 have z2 : W2.heap.size = B + 2 := by rw [← hW2]; simp [z1]
 have n1 : Has W1 W.heap.size 80 #[.func (.func 57) #[] #[]] := hW1 ▸ Has.new _ _ _
 have n2 : Has W2 W1.heap.size 3 #[.int .i64 0] := hW2 ▸ Has.new _ _ _
 have hLl := hL.lt
 have hGl := hG.lt
 have HSEQ := hid (once_seq 5 (by omega) (B + 1) BL g rv sv r s W2 (by omega) (hL.later q12) (hG.later q12) (by omega) (by omega) (fun X hX => keys_kept hr q12 (by omega) hX) (fun X hX => keys_kept hs q12 (by omega) hX) hrl)
 have hok : ∀ x ∈ r ++ s, KyOk x := fun x hx => by
  rcases List.mem_append.1 hx with h | h
  ·exact hr.all x h
  ·exact hs.all x h
 have hdl : (ddK (r ++ s)).length ≤ 50000 := by have := ddK_len (r ++ s); rw [List.length_append] at this; omega
 unfold declN
 generalize r ++ s = al at *
 rw [hB] at n1 q1 q12
 rw [z1] at n2
 have HST0 := hid (show SuK W B 57 ((costKs ((ddK al).take 0) : Nat) : Int) W2 from ⟨n1.later q2, n2, q12⟩)
 have HZ := hid (And.intro hB z2)
 have HDL := hid hdl
 have HOK := hid hok
 have HSTP := hid (fun k h => @costKs_step al k h)
 have HW1 := hid hW1
 have HW2 := hid hW2
 have L0 := Has.new W 80 #[.func (.func 57) #[] #[]]
 have L1 := L0.alloc (.cells #[.int .i64 0] 3)
 have L2 := Has.new (W.alloc (.cells #[.func (.func 57) #[] #[]] 80)) 3 #[.int .i64 0]
 have x0 := L1.cell 0 _ rfl
 have x1 := L2.cell 0 _ rfl
 have y1 := L2.frozen 0
 simp only [World.size_alloc] at x1 y1
 clear q1 q2 q12 n1 n2 hL hG hr hs hrl hLl hGl hok hdl hW1 hW2 L0 L1 L2 z1 z2 hB
 refine callsIn_of_wp_marks Tryd.func55 rfl trivial ?_ rfl
 simp only [Tryd.ntmps55, List.size_toArray, List.length_cons, List.length_nil, Nat.reduceAdd, Nat.reduceSub, Array.replicate_succ, Array.replicate_zero, List.push_toArray, List.append_toArray, List.nil_append, List.cons_append]
 gi_wp2_with fail
 rw [HW1.out, HW2.out, HZ.out.1]
 clear x0 x1 y1
 refine wpIn_rangeFunc_N rfl (by omega) (gf := 76) (lb := #[.pointer (some ⟨BL, 0, none⟩)]) rfl trivial (enters_of Tryd.func76 (by kernel_rfl) rfl)
  HSEQ.out KpO.trans KpO.b (fun _ _ => rfl)
  (fun k X => SuK W B 57 ((costKs ((ddK al).take k) : Nat) : Int) X) (fun _ _ _ => False) (SuK.own (v := fun k => ((costKs ((ddK al).take k) : Nat) : Int)) (by have := HZ.out; omega)) (fun _ => fun _ _ _ _ h => h.elim)
  HST0.out
  (fun k a' V => ∃ bx, W2.heap.size ≤ bx ∧ Has V bx tKy (kyC (nthG al k)) ∧ a' = { tmps := #[.func (.func 76) #[] #[.pointer (some ⟨BL, 0, none⟩)], .func (.func 57) #[] #[], undef, .pointer (some ⟨B, 0, none⟩), .int .i64 0, .pointer (some ⟨B + 1, 0, none⟩), .pointer (some ⟨bx, 0, none⟩), .func (.func 76) #[] #[.pointer (some ⟨BL, 0, none⟩)], .agg (kyC (nthG al k)), undef, undef, undef, undef, undef, undef], defers := [] })
  (fun k a' _ X Y row hs hg hr => by
   obtain ⟨bx, h1, h2, e⟩ := hs
   exact ⟨bx, h1, h2.grownG hg (fun r e => (hr r e).2), e⟩) ?assign ?body ?done ?stop
 case assign =>
  intro l k V K hkN hst hK
  have HST := hid hst
  have HK := hid hK
  obtain ⟨x, hx⟩ : ∃ x, nthG al k = x := ⟨_, rfl⟩
  rw [hx] at HK ⊢
  have Z0 := Has.new V tKy #[.int .u8 0, .int .u8 0, .int .u8 0, .int .u8 0, .int .u8 0, .int .u8 0, .int .u8 0, .int .u8 0, .int .u8 0, .int .u8 0, .int .u8 0, .int .u8 0, .int .u8 0, .int .u8 0, .int .u8 0, .int .u8 0, .int .u8 0, .int .u8 0, .int .u8 0, .int .u8 0, .bool false, .int .u64 0, .int .u64 0, .int .u64 0, .int .u64 0]
  have qz := newA V (.cells #[.int .u8 0, .int .u8 0, .int .u8 0, .int .u8 0, .int .u8 0, .int .u8 0, .int .u8 0, .int .u8 0, .int .u8 0, .int .u8 0, .int .u8 0, .int .u8 0, .int .u8 0, .int .u8 0, .int .u8 0, .int .u8 0, .int .u8 0, .int .u8 0, .int .u8 0, .int .u8 0, .bool false, .int .u64 0, .int .u64 0, .int .u64 0, .int .u64 0] tKy)
  obtain ⟨V1, hV1⟩ : ∃ V1, V.alloc (.cells #[.int .u8 0, .int .u8 0, .int .u8 0, .int .u8 0, .int .u8 0, .int .u8 0, .int .u8 0, .int .u8 0, .int .u8 0, .int .u8 0, .int .u8 0, .int .u8 0, .int .u8 0, .int .u8 0, .int .u8 0, .int .u8 0, .int .u8 0, .int .u8 0, .int .u8 0, .int .u8 0, .bool false, .int .u64 0, .int .u64 0, .int .u64 0, .int .u64 0] tKy) = V1 := ⟨_, rfl⟩
  rw [hV1] at Z0 qz
  have hi5 : (Tryd.prog.info? tKy).map (·.size) = some (kyC x).size := by rw [kyC_size]; exact infoKy
  have ho5 : (#[.int .u8 0, .int .u8 0, .int .u8 0, .int .u8 0, .int .u8 0, .int .u8 0, .int .u8 0, .int .u8 0, .int .u8 0, .int .u8 0, .int .u8 0, .int .u8 0, .int .u8 0, .int .u8 0, .int .u8 0, .int .u8 0, .int .u8 0, .int .u8 0, .int .u8 0, .int .u8 0, .bool false, .int .u64 0, .int .u64 0, .int .u64 0, .int .u64 0] : Array Value).size = (kyC x).size := by rw [kyC_size]; rfl
  have ha5 : (kyC x).all (·.oneCell') = true := by
   rw [Array.all_eq_true]
   intro i hi
   exact kyL_one x _ (by simp only [kyC, List.getElem_toArray]; exact List.getElem_mem _)
  have HQV := hid (below_rowG qz (g := V.heap.size) (Nat.le_refl _) (kyC x))
  have HNV := hid (show Has (V1.setRow V.heap.size (kyC x)) V.heap.size tKy (kyC x) from setRow_heap _ _ _ _ _ _ Z0)
  clear hst hK HST0 qz hx
  gi_wp2_with (refine wpListIn_storeG (free_round _) rfl _ (.tmp 6) (.tmp 8) rfl _ _ rfl rfl _ _ Z0 hi5 ho5 ha5 ?_)
  exact HK.out _ _ (keepsFrom_belowG HQV.out) (KpO.of HQV.out) (HST.out.later HQV.out) ⟨V.heap.size, by have := HST.out.S.lt; have := HZ.out; omega, HNV.out, rfl⟩
 case body =>
  rintro l k a' X hlX hlo hkN hst ⟨bx, hge, hbx, rfl⟩
  have hstep := HSTP.out k hkN
  have hle := costKs_le ((ddK al).take k)
  have hlen := List.length_take_le' k (ddK al)
  have hcb := costK_le (nthG al k)
  have hdl := HDL.out
  obtain ⟨x, hx⟩ : ∃ x, nthG al k = x := ⟨_, rfl⟩
  rw [hx] at hbx hstep hcb ⊢
  have HCK := hid (ofKey_ret x)
  obtain ⟨v, hv⟩ : ∃ v : Nat, costKs ((ddK al).take k) = v := ⟨_, rfl⟩
  rw [hv] at hst hle hstep
  obtain ⟨d, hd⟩ : ∃ d : Nat, costK x = d := ⟨_, rfl⟩
  rw [hd] at HCK hstep hcb
  have v0 : (0 : Int) ≤ (v : Int) := by omega
  have v1 : (v : Int) ≤ 1000000000 := by omega
  have d0 : (0 : Int) ≤ (d : Int) := by omega
  have d1 : (d : Int) ≤ 2400 := by omega
  have HSTEP := hid (show ((costKs ((ddK al).take (k + 1)) : Nat) : Int) = (v : Int) + (d : Int) by rw [hstep]; omega)
  have HH := hid hst
  have e3 : ∀ y : Ext X, y.w.cell? ⟨B, 0, none⟩ = some (.func (.func 57) #[] #[]) := fun y => (hst.F.later y.below).cell 0 _ rfl
  have e5 : ∀ y : Ext X, y.w.cell? ⟨B + 1, 0, none⟩ = some (.int .i64 (v : Int)) := fun y => (hst.S.later y.below).cell 0 _ rfl
  have g5 : ∀ y : Ext X, y.w.frozen? ⟨B + 1, 0, none⟩ = false := fun y => (hst.S.later y.below).frozen 0
  have LX := hid (show ∀ z : World, Grows X z → (loadVar tKy ⟨bx, 0, none⟩).run Tryd.prog z = .ok (.agg (kyC x)) z from fun z hz => by obtain ⟨q, rfl⟩ := hz; exact (hbx.later q.below).kyLoad)
  clear hst hle hstep hcb hdl hx hv hd hkN hlX hlen hbx hlo
  gi_wp2_with fail
  refine wpIn_region_mix (C := Grows X) (free_round l) [some true, some true, some true, some true, some true, none] hmx (by kernel_rfl) (by kernel_rfl) (grows_refl X) ?_
  simp only [headOf, tailOf]
  repeat (first | (with_reducible refine wpQuiet_load rfl 58 _ rfl _ rfl _ LX.out ?_; simp only [Act.put, sT, sS, sZ]) | (go_big_quiet_step (first | (with_reducible exact Ret.at HCK.out _))))
  refine wpQuiet_nil ?_
  rintro _ ⟨y, rfl⟩
  go_wp2
  rw [calmPost_normal]
  have hb := y.below
  have hz := HZ.out
  refine ⟨(y.keeps _).trans ((KeepsOthers.setCell _ _ _).from _), (KpO.of hb).set 0 _, ?_⟩
  show SuK _ _ _ ((costKs ((ddK al).take (k + 1)) : Nat) : Int) _
  rw [HSTEP.out]
  exact ⟨(HH.out.F.later hb).other (by show B ≠ B + 1; omega) _, (HH.out.S.later hb).set 0 _, (HH.out.Q.trans (hb.mono (by have := HH.out.S.lt; omega))).setCell (p := ⟨B + 1, 0, none⟩) (by show B ≤ B + 1; omega) _⟩
 case done =>
  rintro D X hD ⟨hF, hS, hQ⟩ hK
  rw [List.take_length] at hS
  have x0 := hS.cell 0 _ rfl
  have HK := hid hK
  have HQ := hid hQ
  clear hF hS hQ hK
  gi_wp2_with fail
  have hz := HZ.out
  refine ⟨by simp, .inl ⟨_, _, rfl, run_takeDeferred HK.out, ?_⟩⟩
  refine ⟨_, (by simp [results, Tryd.f55, go_sem]), rfl, ?_⟩
  rw [hz.1]
  exact HQ.out.trans (belowK_b (w := W) (by omega) _ D _ _ (by omega) HK.out rfl rfl)
 case stop =>
  rintro D cc k X hD hkn h hK
  exact h.elim
theorem declared_any (W : World) (rv sv : Value) (r s : List Ky) (hr : KeysAt W rv r) (hs : KeysAt W sv s) (hrl : r.length + s.length ≤ 50000) :
  Calls Tryd.prog 33 #[.agg #[rv, sv]] W fun e w' => e = .returned (.int .i64 (declN r s : Int)) ∧ Below W.heap.size W w' := by
 obtain ⟨ra, rc, rfl, _, _⟩ := hr.shape
 obtain ⟨sa, sc, rfl, _, _⟩ := hs.shape
 have HR := hid hr
 have HS := hid hs
 have HRL := hid hrl
 have HD : Hid (declN r s = declN r s) := hid rfl
 obtain ⟨rn, hrn⟩ : ∃ rn, r.length = rn := ⟨_, rfl⟩
 obtain ⟨sn, hsn⟩ : ∃ sn, s.length = sn := ⟨_, rfl⟩
 rw [hrn] at HR ⊢
 rw [hsn] at HS ⊢
 clear hr hs hrl hrn hsn
 have hB := (Has.new W 30 #[.slice ra rn rc, .slice sa sn sc]).alloc (.cells #[.slice ra rn rc, .slice sa sn sc] 28)
 have hP := Has.new (W.alloc (.cells #[.slice ra rn rc, .slice sa sn sc] 30)) 28 #[.slice ra rn rc, .slice sa sn sc]
 have hq0 := (newA W (.cells #[.slice ra rn rc, .slice sa sn sc] 30)).alloc (by simp) (.cells #[.slice ra rn rc, .slice sa sn sc] 28)
 obtain ⟨V, hV⟩ : ∃ V, (W.alloc (.cells #[.slice ra rn rc, .slice sa sn sc] 30)).alloc (.cells #[.slice ra rn rc, .slice sa sn sc] 28) = V := ⟨_, rfl⟩
 have hB1 := Has.new W 30 #[.slice ra rn rc, .slice sa sn sc]
 have c0 := hB1.cell 0 _ rfl
 have c1 := hB1.cell 1 _ rfl
 rw [hV] at hP hq0
 have HV := hid hV
 have HP := hid hP
 have HQ := hid hq0
 clear hB hP hq0 hV hB1
 go_enter Tryd.func33, Tryd.ntmps33
 go_wp2_with fail
 rw [HV.out]
 clear c0 c1
 refine (once_mk _ _ _ _).mono ?_
 rintro e w3 ⟨rfl, hw3⟩
 have L := Has.new V 81 #[.slice (some ⟨(W.alloc (.cells #[.slice ra rn rc, .slice sa sn sc] 30)).heap.size, 0, none⟩) 2 2]
 have q3 := newA V (.cells #[.slice (some ⟨(W.alloc (.cells #[.slice ra rn rc, .slice sa sn sc] 30)).heap.size, 0, none⟩) 2 2] 81)
 simp only [World.size_alloc] at L q3 HP hw3
 rw [← hw3] at L q3
 have q4 := HQ.out.trans (q3.mono HQ.out.size)
 have HC := hid (sum_keys w3 V.heap.size (W.heap.size + 1) _ _ r s L (HP.out.later q3) (HR.out.later q4) (HS.out.later q4) HRL.out)
 have Q4 := hid q4
 clear hw3 L q3 q4
 go_wp2_with fail
 refine HC.out.mono ?_
 rintro e w5 ⟨rfl, q5⟩
 have Q5 := hid (Q4.out.trans (q5.mono Q4.out.size))
 clear q5
 go_wp2
 go_ret
 exact ⟨rfl, Q5.out⟩
end
section
open Go Go.RowKit
attribute [local go_sem] Oper.semAt_some Grows wide_fn

theorem eq4k (k : Nat) (a b c d a' b' c' d' : Int) (w : World) : (Op.equalIn (k + 2) 24 (.agg #[.int .u64 a, .int .u64 b, .int .u64 c, .int .u64 d]) (.agg #[.int .u64 a', .int .u64 b', .int .u64 c', .int .u64 d'])).run Tryd.prog w = .ok (a == a' && b == b' && c == c' && d == d') w := by
 have u3 := Tryd.underlying22
 have a3 := Tryd.isAgg22
 have z3 := Tryd.sizeOf22
 rw [Op.equalIn]
 simp only [Sem.run_bind, run_underlying Tryd.underlying24, Result.andThen_ok]
 simp only [Std.Legacy.Range.forIn_eq_forIn_range', Std.Legacy.Range.size, Nat.sub_zero, Nat.add_sub_cancel, Nat.div_one, List.range'_succ, List.range'_zero, List.forIn_cons, List.forIn_nil]
 go_simp
 by_cases h1 : a = a' <;> by_cases h2 : b = b' <;> by_cases h3 : c = c' <;> by_cases h4 : d = d' <;> simp [h1, h2, h3, h4]
theorem eq_loop20k (D A B : Nat) (w : World) : ∀ l : List Nat, (∀ i, i ∈ l → i < 20) →
  (forIn (m := Sem) l ((none : Option Bool), ()) fun i _ => do
   let x ← part 5 (adC A) i
   let y ← part 5 (adC B) i
   let r ← Op.equalIn (D + 1) 5 x y
   if (!r) = true then pure (ForInStep.done (some false, ())) else pure (ForInStep.yield (none, ()))).run Tryd.prog w = .ok (if l.all (fun j => adB A j == adB B j) = true then (none, ()) else (some false, ())) w
 | [], _ => by simp [go_sem]
 | i :: l, hl => by
  have hi := hl i (by simp)
  have ih := eq_loop20k D A B w l (fun j hj => hl j (by simp [hj]))
  rw [List.forIn_cons]
  simp only [Sem.run_bind, part20 A i hi, part20 B i hi, equal_u8 D, Result.andThen_ok]
  by_cases h : adB A i = adB B i
  ·have hb : (((adB A i : Nat) : Int) == ((adB B i : Nat) : Int)) = true := by rw [h]; exact beq_self_eq_true _
   have hn : (adB A i == adB B i) = true := by rw [h]; exact beq_self_eq_true _
   simp only [hb, Bool.not_true, Bool.false_eq_true, if_false, Sem.run_pure, Result.andThen_ok, List.all_cons, hn, Bool.true_and]
   exact ih
  ·have hb : (((adB A i : Nat) : Int) == ((adB B i : Nat) : Int)) = false := beq_eq_false_iff_ne.2 (by omega)
   have hn : (adB A i == adB B i) = false := beq_eq_false_iff_ne.2 h
   simp only [hb, Bool.not_false, if_true, Sem.run_pure, Result.andThen_ok, List.all_cons, hn, Bool.false_and, Bool.false_eq_true, if_false]
theorem eq20k (D : Nat) (a b : Nat) (ha : a < 256 ^ 20) (hb : b < 256 ^ 20) (w : World) : (Op.equalIn (D + 2) 56 (.agg (adC a)) (.agg (adC b))).run Tryd.prog w = .ok (decide (a = b)) w := by
 have z3 := Tryd.sizeOf5
 rw [← eqA_iff ha hb]
 rw [Op.equalIn]
 simp only [Sem.run_bind, run_underlying Tryd.underlying56, Result.andThen_ok, z3]
 simp only [Std.Legacy.Range.forIn_eq_forIn_range', Std.Legacy.Range.size, Nat.sub_zero, Nat.add_sub_cancel, Nat.div_one, Nat.mul_one]
 rw [eq_loop20k D a b w (List.range' 0 20) (fun i hi => by rw [List.mem_range'_1] at hi; omega)]
 rw [show List.range' 0 20 = List.range 20 from rfl]
 show Result.andThen (.ok (if eqA a b = true then (none, ()) else (some false, ())) w) _ = _
 cases h : eqA a b <;> simp [go_sem]
theorem equal_bool (d : Nat) (x y : Bool) (w : World) : (Op.equalIn (d + 1) 4 (.bool x) (.bool y)).run Tryd.prog w = .ok (x == y) w := by
 rw [Op.equalIn]
 simp only [Sem.run_bind, run_underlying Tryd.underlying4, Result.andThen_ok]
 simp [go_sem]
theorem kyPart0 (x : Ky) : (kyC x).extract 0 20 = adC x.at_ := by
 unfold kyC kyL adC
 simp [adL_len, List.extract_eq_take_drop]
theorem kyPart2 (x : Ky) : (kyC x).extract 21 25 = #[.int .u64 (lim x.key 0), .int .u64 (lim x.key 1), .int .u64 (lim x.key 2), .int .u64 (lim x.key 3)] := by
 unfold kyC kyL
 have h : List.drop 21 (adL x.at_) = [] := List.drop_eq_nil_of_le (by rw [adL_len]; omega)
 simp [adL_len, List.extract_eq_take_drop, List.drop_append, h]
theorem eqKey (x y : Ky) (hx : KyOk x) (hy : KyOk y) (w : World) : (Op.equalIn 10000 58 (.agg (kyC x)) (.agg (kyC y))).run Tryd.prog w = .ok (decide (x = y)) w := by
 rw [show (10000 : Nat) = 9999 + 1 from rfl, run_equalIn_struct (P := Tryd.prog) w 9999 58 _ _ (by kernel_rfl) (by kernel_rfl)]
 have hf : (Tryd.prog.fieldsOf 58).toList.map (fun f => (f.name, f.type, f.offset)) = [("At", 56, 0), ("Slot", 4, 20), ("Key", 24, 21)] := by kernel_rfl
 generalize (Tryd.prog.fieldsOf 58).toList = l at hf
 rcases l with _ | ⟨p, _ | ⟨q, _ | ⟨r, _ | ⟨z, l⟩⟩⟩⟩
 ·cases hf
 ·simp at hf
 ·simp at hf
 ·simp only [List.map_cons, List.map_nil, List.cons.injEq, Prod.mk.injEq, and_true] at hf
  obtain ⟨⟨h1, h2, h3⟩, ⟨h4, h5, h6⟩, h7, h8, h9⟩ := hf
  have e1 := eq20k 9997 x.at_ y.at_ hx.at_ hy.at_ w
  have e2 := equal_bool 9998 x.slot y.slot w
  have e3 := eq4k 9997 (lim x.key 0) (lim x.key 1) (lim x.key 2) (lim x.key 3) (lim y.key 0) (lim y.key 1) (lim y.key 2) (lim y.key 3) w
  rw [eqv_k x.key y.key hx.key hy.key] at e3
  simp only [Nat.reduceAdd] at e1 e2 e3
  have p1 := kyPart0 x
  have p2 : (kyC x)[20]? = some (.bool x.slot) := kyC_more x 0
  have p3 := kyPart2 x
  have r1 := kyPart0 y
  have r2 : (kyC y)[20]? = some (.bool y.slot) := kyC_more y 0
  have r3 := kyPart2 y
  have hxy : decide (x = y) = (decide (x.at_ = y.at_) && (x.slot == y.slot) && decide (x.key = y.key)) := by
   obtain ⟨x1, x2, x3⟩ := x
   obtain ⟨y1, y2, y3⟩ := y
   simp only [Ky.mk.injEq, Bool.decide_and]
   cases x2 <;> cases y2 <;> simp
  rw [hxy]
  generalize kyC x = cx at *
  generalize kyC y = cy at *
  generalize decide (x.at_ = y.at_) = b1 at *
  generalize hb2 : (x.slot == y.slot) = b2 at e2 ⊢
  generalize decide (x.key = y.key) = b3 at *
  have a26 := Tryd.isAgg56
  have z26 := Tryd.sizeOf56
  have a29 := Tryd.isAgg24
  have z29 := Tryd.sizeOf24
  have a4 := Tryd.isAgg4
  unfold Op.eqFields Op.eqFields Op.eqFields Op.eqFields
  simp [h1, h2, h3, h4, h5, h6, h7, h8, h9, part, go_sem, a26, z26, a29, z29, a4, p1, p2, p3, r1, r2, r3, e1, e3]
  clear h1 h2 h3 h4 h5 h6 h7 h8 h9 p1 p2 p3 r1 r2 r3 e1 e2 e3 hxy
  cases b1 <;> cases b2 <;> cases b3 <;> simp_all
 ·simp at hf
theorem below_rowK {B g : Nat} {w0 w : World} (hb : Below B w0 w) (hBg : B ≤ g) (cs : Array Value) : Below B w0 (w.setRow g cs) :=
 hb.trans ⟨rfl, rfl, rfl, by simp [World.setRow], fun k hk => setRow_other w g k cs (by omega)⟩
theorem kyC_one (k : Ky) : (kyC k).all (·.oneCell') = true := by
 rw [Array.all_eq_true_iff_forall_mem]
 intro u hu
 exact kyL_one k u (by simpa [kyC] using hu)
structure SetsAt (W : World) (v : Value) (r s : List Ky) : Prop where
 ex : ∃ rv sv, v = .agg #[rv, sv] ∧ KeysAt W rv r ∧ KeysAt W sv s
end
end Go.Proofs.YtlihnlkcgiopoaaDoor

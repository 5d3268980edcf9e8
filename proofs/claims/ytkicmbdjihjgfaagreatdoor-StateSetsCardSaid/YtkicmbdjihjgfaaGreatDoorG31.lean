/- The frame of a law of package state: what the row lists, and what an argument reads as. Conditions: none. -/
import Derived.LaidSub
import Derived.Lib.LaidTab
import Derived.Lay
import Derived.LaidLaws
import Derived.Test.YtkicmbdjihjgfaaGreatDoorRows
import Derived.ProofKit
import Derived.LaidMore
import Derived.OpenShut
import Derived.Stop.Joined
import Derived.ChangeSame
import Derived.Below
import Derived.Laws.IdiomArrays
import Derived.Test.YtkicmbdjihjgfaaGreatDoorG29
import Derived.Deep.Slices
import Derived.ReadAgain
import Derived.Carry
import Derived.Test.YtkicmbdjihjgfaaGreatDoorG04
import Derived.Test.YtkicmbdjihjgfaaGreatDoorG21
set_option maxRecDepth 100000
set_option maxHeartbeats 16000000
open List (setIfInBounds_toArray set_cons_succ set_cons_zero)
namespace Go.Proofs.YtkicmbdjihjgfaaGreatDoor
open Go Go.ChangeShapes Go.WideShapes Go.ChangeAt Go.RowKit
theorem ownNone : ownKnob Tryz.prog.godebug = none := by kernel_rfl
theorem tabIs_of_second {P : Program} {W : World} {name : String} {k : IntKind} {zs : List Int} {fst : String × DataW Unit} {rest : List (String × DataW Unit)} {g : Nat} {t e : TypeId} {n : Nat}
  (hg : P.globalNamed name = some g) (hty : (P.globals[g]?).map (·.type) = some t) (ht : P.underlying t = some (.array n e)) (he : P.underlying e = some (.int k)) (hce : P.cellsOf e = 1) (hct : P.cellsOf t = n)
  (h : laidMet P (fst :: (name, Lib.tabData k zs) :: rest) W) : Lib.TabIs P W name k zs := by
 obtain ⟨ps, ⟨_, _, _, _, _, _, _, _, _, _, hrest, _⟩, _⟩ := h
 obtain ⟨g', t', cs, fuel, p, q, hg', ht', hvar, hd, _, _⟩ := hrest
 obtain rfl := Option.some.inj (hg.symm.trans hg')
 obtain rfl := Option.some.inj (hty.symm.trans ht')
 unfold Lib.TabIs
 rw [hvar, ← Lib.cells_of_tab ht he hce hct hd]
theorem tab_of_laid {W : World} (h : laidMetH Tryz.prog [("unicode/utf8.acceptRanges", Rows.laid_unicode_utf8_acceptRanges), ("railhead/keccak.constants", Rows.laid_railhead_keccak_constants), ("unicode/utf8.first", Rows.laid_unicode_utf8_first)] W) : Tab W := by
 rw [MakeChecks.laidMetH_plain _ _ _ (by kernel_rfl)] at h
 have hg : Tryz.prog.globalNamed "railhead/keccak.constants" = some 0 := by kernel_rfl
 have hT := tabIs_of_second (k := .u64) (zs := rcL.map fun n => ((n : Nat) : Int)) hg (show (Tryz.prog.globals[0]?).map (·.type) = some 135 by kernel_rfl) Tryz.underlying135 Tryz.underlying26 (by kernel_rfl) (by kernel_rfl) h
 have hc : ∀ i, i < 24 → W.cell? ⟨0, i, none⟩ = some (.int .u64 ((rcL.getD i 0 : Nat) : Int)) := fun i hi => by
  have := hT.cell hg i (by simpa [rcL] using hi)
  rw [this]
  have hl : i < rcL.length := hi
  simp [List.getD_eq_getElem?_getD, List.getElem?_map, List.getElem?_eq_getElem hl]
 exact ⟨lt_of_cell (hc 0 (by omega)), hc⟩
end Go.Proofs.YtkicmbdjihjgfaaGreatDoor
namespace Go.Proofs.YtkicmbdjihjgfaaGreatDoor
open Go Go.ChangeShapes Go.WideShapes Go.ChangeAt Go.RowKit Go.Deep
theorem cellsI64 : Tryz.prog.cellsOf 3 = 1 := by kernel_rfl
theorem cellsPairI : Tryz.prog.cellsOf 83 = 2 := by kernel_rfl
theorem trod_pairI {H : Type} {enc : TypeId × Value → H} {P : Program} {w : World} {base : Nat} {spare : Nat → Bool} {held : Bool} {t e : TypeId} {fuel : Nat} {cs : List Value} {x : DataW H × List MemPlace} (ht : P.underlying t = some (.array 2 e)) (hce : P.cellsOf e = 1) (hcs : cs.length = 2)
  (h : DataW.trod enc P w base spare held fuel t cs = some x) :
  ∃ c0 c1 y0 y1 n, cs = [c0, c1] ∧ DataW.trod enc P w base spare held n e [c0] = some y0 ∧ DataW.trod enc P w base spare held n e [c1] = some y1 := by
 match cs, hcs with
 | [c0, c1], _ =>
  cases fuel with
  | zero => simp [DataW.trod] at h
  | succ n =>
   unfold DataW.trod at h
   rw [ht] at h
   have r2 : List.range 2 = [0, 1] := rfl
   simp [r2, hce] at h
   obtain ⟨_, h⟩ := h
   cases h0 : DataW.trod enc P w base spare held n e [c0] with
   | none => simp [h0] at h
   | some y0 =>
    cases h1 : DataW.trod enc P w base spare held n e [c1] with
    | none => simp [h0, h1] at h
    | some y1 => exact ⟨c0, c1, y0, y1, n, rfl, h0, h1⟩
theorem open_raw {H : Type} {enc : TypeId × Value → H} {W : World} {base b : Nat} {sp : Nat → Bool} {held : Bool} {v : Value} {d : DataW H} {ps : List MemPlace}
  (hval : Value.okWide Tryz.prog W .any base 57 v) (hd : DataW.Trod enc Tryz.prog W b sp held 57 v d ps) : ∃ zs, RawAt W v zs := by
 obtain ⟨a0, len, cap, rfl⟩ := okWide_slice Tryz.underlying57 hval
 obtain ⟨fuel, hf⟩ := hd
 rcases open_slice Tryz.underlying57 hf with ⟨hcs, _⟩ | ⟨a, len', cap', m, n, D, Pl, hcs, _, hl, hm, hmm, _, hi⟩
 ·simp [Value.cells] at hcs
  obtain ⟨rfl, rfl, rfl⟩ := hcs
  exact ⟨[], none, 0, rfl, by simp, by simp, fun i p hp => by simp at hp⟩
 ·simp [Value.cells] at hcs
  obtain ⟨rfl, rfl, rfl⟩ := hcs
  have hlm : len ≤ m := by rw [hmm]; split <;> omega
  have key : ∀ i, i < len → ∃ p : Int × Int, I64 p.1 ∧ I64 p.2 ∧ W.cell? (a.add (i * 2)) = some (.int .i64 p.1) ∧ W.cell? ((a.add (i * 2)).add 1) = some (.int .i64 p.2) := by
   intro i hil
   obtain ⟨cs', hc, ht⟩ := hi i (by omega)
   rw [cellsPairI] at hc
   obtain ⟨_, hcl, hat⟩ := World.cells?_some hc
   obtain ⟨c0, c1, y0, y1, n', rfl, t0, t1⟩ := trod_pairI Tryz.underlying83 cellsI64 hcl ht
   obtain ⟨x0, e0, rfl, w0⟩ := DataW.trod_int Tryz.underlying3 t0
   obtain ⟨x1, e1, rfl, w1⟩ := DataW.trod_int Tryz.underlying3 t1
   simp at e0 e1
   subst e0 e1
   have b0 := bounds_i64 w0
   have b1 := bounds_i64 w1
   refine ⟨(x0, x1), by unfold I64; omega, by unfold I64; omega, ?_, ?_⟩
   ·have := hat 0 (by simp)
    simpa [Addr.add] using this
   ·have := hat 1 (by simp)
    simpa using this
  have hch : ∃ f : Nat → Int × Int, ∀ i, i < len → I64 (f i).1 ∧ I64 (f i).2 ∧ W.cell? (a.add (i * 2)) = some (.int .i64 (f i).1) ∧ W.cell? ((a.add (i * 2)).add 1) = some (.int .i64 (f i).2) := by
   refine ⟨fun i => if h : i < len then Classical.choose (key i h) else (0, 0), fun i h => ?_⟩
   simp only [dif_pos h]
   exact Classical.choose_spec (key i h)
  obtain ⟨f, hf'⟩ := hch
  have hmax : maxLen ≤ 9223372036854775807 := by decide
  refine ⟨(List.range len).map f, some a, cap, by simp, by simpa using hl, by omega, fun i p hp => ?_⟩
  obtain ⟨hlt, he⟩ := List.getElem?_eq_some_iff.1 hp
  simp at hlt he
  subst he
  obtain ⟨g1, g2, g3, g4⟩ := hf' i hlt
  exact ⟨g1, g2, a, rfl, g3, g4⟩
theorem laidOutAll : laidOutB Tryz.prog = true := by kernel_rfl
theorem trodAll_below {H : Type} {enc : TypeId × Value → H} {W W' : World} (hb : Below W.heap.size W W') : ∀ {ts : List TypeId} {vs : List Value} {ds : List (DataW H)} {ps : List MemPlace},
  (∀ t ∈ ts, Tryz.prog.readableRec t = true ∧ t < Tryz.prog.types.size) → DataW.TrodAll enc Tryz.prog W 0 (fun _ => true) true ts vs ds ps → (∀ x ∈ ps, x.block < W.heap.size) →
  DataW.TrodAll enc Tryz.prog W' 0 (fun b => decide (b < W.heap.size)) true ts vs ds ps
 | [], [], [], _, _, h, _ => h
 | _ :: _, _ :: _, _ :: _, _, ht, ⟨p, q, h1, h2, e⟩, hs =>
  ⟨p, q, Below.trod laidOutAll (ht _ (List.mem_cons.2 (Or.inl rfl))).1 (ht _ (List.mem_cons.2 (Or.inl rfl))).2 h1 hb (fun x hx => hs x (by rw [e]; exact List.mem_append_left _ hx)),
   trodAll_below hb (fun t h => ht t (List.mem_cons.2 (Or.inr h))) h2 (fun x hx => hs x (by rw [e]; exact List.mem_append_right _ hx)), e⟩
theorem post_read {H : Type} {enc : TypeId × Value → H} {f : Func} {s : ChangeSpec} {W W' : World} {args : Array Value} {ds : List (DataW H)} {before : List MemPlace}
  (hW : DataW.Whole enc Tryz.prog f.params.toList s.vars false W args.toList ds [] before) (hvars : s.vars = []) (hft : f.resultTypes = #[4])
  (hfn : s.fn H ds = { results := [.lit (.bool true)], args := ds }) (hA : DataW.TrodAll enc Tryz.prog W 0 (fun _ => true) true f.params.toList args.toList ds before)
  (hts : (f.params.toList.all fun t => Tryz.prog.readableRec t && decide (t < Tryz.prog.types.size)) = true)
  (hb : Below W.heap.size W W') : s.post enc Tryz.prog f false true false false W args (.bool true) W' := by
 have e : (s.fn H (ds ++ [])) = { results := [.lit (.bool true)], args := ds } := by rw [List.append_nil]; exact hfn
 refine ⟨ds, [], before, [], before, [], hW, ?_, ?_, ?_, World.keptBut_mono (fun p hp => absurd hp (by simp)) (hb.frame (fun _ => False)), fun h => by cases h⟩
 ·rw [e, hft]
  exact trodAll_mk1 (shut_bool Tryz.underlying4 _)
 ·rw [e]
  exact trodAll_below hb (fun t ht => by
   have := List.all_eq_true.1 hts t ht
   simpa using this) hA (fun x hx => by simpa using hW.lt x hx)
 ·rw [e, hvars]
  rfl
theorem cellsRow4 : Tryz.prog.cellsOf 34 = 4 := by kernel_rfl
theorem trod_rowF {H : Type} {enc : TypeId × Value → H} {P : Program} {w : World} {base : Nat} {spare : Nat → Bool} {held : Bool} {t e : TypeId} {fuel N : Nat} {cs : List Value} {x : DataW H × List MemPlace} (ht : P.underlying t = some (.array N e)) (he : P.underlying e = some (.int .i64)) (hce : P.cellsOf e = 1) (hct : P.cellsOf t = N)
  (h : DataW.trod enc P w base spare held fuel t cs = some x) : cs.length = N ∧ ∃ f : Nat → Int, ∀ j, j < N → I64 (f j) ∧ cs[j]? = some (.int .i64 (f j)) := by
 obtain ⟨xs, m, rfl, hx, hlen, hxl, hi⟩ := DataW.trod_array ht h
 rw [hct] at hlen
 have key : ∀ j, j < N → ∃ z : Int, I64 z ∧ cs[j]? = some (.int .i64 z) := by
  intro j hj
  have h0 := hi j hj
  rw [hce, Nat.mul_one, List.getElem?_eq_getElem (by omega)] at h0
  obtain ⟨z, e1, _, w0⟩ := DataW.trod_int he h0
  have b0 := bounds_i64 w0
  refine ⟨z, by unfold I64; omega, ?_⟩
  have e2 : (cs.drop j)[0]? = some (.int .i64 z) := by
   have := congrArg (fun l : List Value => l[0]?) e1
   simpa [List.getElem?_take] using this
  simpa using e2
 refine ⟨hlen, fun j => if h : j < N then Classical.choose (key j h) else 0, fun j hj => ?_⟩
 simp only [dif_pos hj]
 exact Classical.choose_spec (key j hj)
theorem open_rowF {H : Type} {enc : TypeId × Value → H} {W : World} {base b : Nat} {sp : Nat → Bool} {held : Bool} {v : Value} {d : DataW H} {ps : List MemPlace}
  (hval : Value.okWide Tryz.prog W .any base 23 v) (hd : DataW.Trod enc Tryz.prog W b sp held 23 v d ps) : ∃ zs, RowF 4 W v zs := by
 obtain ⟨a0, len, cap, rfl⟩ := okWide_slice Tryz.underlying23 hval
 obtain ⟨fuel, hf⟩ := hd
 rcases open_slice Tryz.underlying23 hf with ⟨hcs, _⟩ | ⟨a, len', cap', m, n, D, Pl, hcs, _, hl, hm, hmm, _, hi⟩
 ·simp [Value.cells] at hcs
  obtain ⟨rfl, rfl, rfl⟩ := hcs
  exact ⟨[], none, 0, rfl, by simp, by simp, fun i p hp => by simp at hp⟩
 ·simp [Value.cells] at hcs
  obtain ⟨rfl, rfl, rfl⟩ := hcs
  have hlm : len ≤ m := by rw [hmm]; split <;> omega
  have key : ∀ i, i < len → ∃ p : Nat → Int, RowsIn 4 W (a.add (i * 4)) p := by
   intro i hil
   obtain ⟨cs', hc, ht⟩ := hi i (by omega)
   rw [cellsRow4] at hc
   obtain ⟨_, hcl, hat⟩ := World.cells?_some hc
   obtain ⟨_, f, hf⟩ := trod_rowF Tryz.underlying34 Tryz.underlying3 cellsI64 cellsRow4 ht
   refine ⟨f, fun j hj => ⟨(hf j hj).1, ?_⟩⟩
   have := hat j (by omega)
   rw [this]
   have h2 := (hf j hj).2
   simpa using h2
  have hch : ∃ f : Nat → (Nat → Int), ∀ i, i < len → RowsIn 4 W (a.add (i * 4)) (f i) := by
   refine ⟨fun i => if h : i < len then Classical.choose (key i h) else fun _ => 0, fun i h => ?_⟩
   simp only [dif_pos h]
   exact Classical.choose_spec (key i h)
  obtain ⟨f, hf'⟩ := hch
  have hmax : maxLen ≤ 9223372036854775807 := by decide
  refine ⟨(List.range len).map f, some a, cap, by simp, by simpa using hl, by omega, fun i p hp => ?_⟩
  obtain ⟨hlt, he⟩ := List.getElem?_eq_some_iff.1 hp
  simp at hlt he
  subst he
  exact ⟨a, rfl, hf' i hlt⟩
theorem open_oneF {H : Type} {enc : TypeId × Value → H} {W : World} {base b : Nat} {sp : Nat → Bool} {held : Bool} {v : Value} {d : DataW H} {ps : List MemPlace}
  (hval : Value.okWide Tryz.prog W .any base 34 v) (hd : DataW.Trod enc Tryz.prog W b sp held 34 v d ps) : ∃ p : Nat → Int, v = .agg (rowL 4 p).toArray ∧ ∀ j, j < 4 → I64 (p j) := by
 obtain ⟨cs, rfl, hsz, _⟩ : ∃ cs, v = .agg cs ∧ cs.size = Tryz.prog.cellsOf 34 ∧ Row.okWide Tryz.prog W .any base 34 cs := by
  simpa [Value.okWide, Tryz.underlying34] using hval
 obtain ⟨l⟩ := cs
 obtain ⟨fuel, hf⟩ := hd
 obtain ⟨hlen, f, hf⟩ := trod_rowF (cs := l) Tryz.underlying34 Tryz.underlying3 cellsI64 cellsRow4 hf
 refine ⟨f, ?_, fun j hj => (hf j hj).1⟩
 congr 2
 refine List.ext_getElem? fun j => ?_
 rcases Nat.lt_or_ge j 4 with h | h
 ·rw [(hf j h).2]
  simp [rowL, h]
 ·rw [List.getElem?_eq_none (by omega), List.getElem?_eq_none (by rw [rowL_len]; omega)]
end Go.Proofs.YtkicmbdjihjgfaaGreatDoor

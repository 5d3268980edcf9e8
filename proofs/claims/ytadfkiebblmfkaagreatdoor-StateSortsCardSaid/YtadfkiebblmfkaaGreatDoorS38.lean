import Derived.Test.YtadfkiebblmfkaaGreatDoorS36
import Derived.LaidSub
import Derived.Lib.LaidTab
import Derived.Lay
import Derived.LaidLaws
import Derived.Test.YtadfkiebblmfkaaGreatDoorRows
import Derived.ProofKit
import Derived.LaidMore
import Derived.OpenShut
import Derived.Stop.Joined
import Derived.ChangeSame
import Derived.Below
import Derived.Laws.IdiomArrays
import Derived.Test.YtadfkiebblmfkaaGreatDoorS07
import Derived.Deep.Slices
import Derived.ReadAgain
import Derived.Carry
/- The frame of a law of package state: what the row lists, and what an argument reads as. Conditions: none. -/
namespace Go.Proofs.YtadfkiebblmfkaaGreatDoor
open Go Go.ChangeShapes Go.WideShapes Go.ChangeAt Go.RowKit

theorem ownNone : ownKnob Tryz.prog.godebug = none := by kernel_rfl
/-- Where no argument reads memory, and no variable is read: a call that yields true and only adds to the heap. -/
theorem post_true {H : Type} {enc : TypeId × Value → H} {f : Func} {s : ChangeSpec} {W W' : World} {args : Array Value} {ds : List (DataW H)}
    (hW : DataW.Whole enc Tryz.prog f.params.toList s.vars false W args.toList ds [] []) (hvars : s.vars = []) (hft : f.resultTypes = #[4])
    (hfn : s.fn H ds = { results := [.lit (.bool true)], args := ds })
    (hargs : ∀ (W' : World) (b : Nat) (sp : Nat → Bool) (held : Bool), DataW.TrodAll enc Tryz.prog W' b sp held f.params.toList args.toList ds [])
    (hb : Below W.heap.size W W') : s.post enc Tryz.prog f false true false false W args (.bool true) W' := by
  have e : (s.fn H (ds ++ [])) = { results := [.lit (.bool true)], args := ds } := by rw [List.append_nil]; exact hfn
  refine ⟨ds, [], [], [], [], [], hW, ?_, ?_, ?_, World.keptBut_mono (fun p hp => absurd hp (by simp)) (hb.frame (fun _ => False)), fun h => by cases h⟩
  · rw [e, hft]
    exact trodAll_mk1 (shut_bool Tryz.underlying4 _)
  · rw [e]
    exact hargs _ _ _ _
  · rw [e, hvars]
    rfl

theorem i64_of_wf {x : Int} (h : (Lit.int .i64 x).wf = true) : I64 x := by
  have := bounds_i64 h
  unfold I64; omega


theorem tabIs_of_second {P : Program} {W : World} {name : String} {k : IntKind} {zs : List Int} {fst : String × DataW Unit} {rest : List (String × DataW Unit)} {g : Nat} {t e : TypeId} {n : Nat}
    (hg : P.globalNamed name = some g) (hty : (P.globals[g]?).map (·.type) = some t) (ht : P.underlying t = some (.array n e)) (he : P.underlying e = some (.int k)) (hce : P.cellsOf e = 1) (hct : P.cellsOf t = n)
    (h : laidMet P (fst :: (name, Lib.tabData k zs) :: rest) W) : Lib.TabIs P W name k zs := by
  obtain ⟨ps, ⟨_, _, _, _, _, _, _, _, _, _, hrest, _⟩, _⟩ := h
  obtain ⟨g', t', cs, fuel, p, q, hg', ht', hvar, hd, _, _⟩ := hrest
  obtain rfl := Option.some.inj (hg.symm.trans hg')
  obtain rfl := Option.some.inj (hty.symm.trans ht')
  unfold Lib.TabIs
  rw [hvar, ← Lib.cells_of_tab ht he hce hct hd]

theorem tab_of_laid {W : World} (h : laidMetH Tryz.prog [("unicode/utf8.acceptRanges", Rows.laid_unicode_utf8_acceptRanges), ("railhead/keccak.constants", Rows.laid_railhead_keccak_constants), ("unicode/utf8.first", Rows.laid_unicode_utf8_first)] W) : Tab W := by
  rw [MakeChecks.laidMetH_plain _ _ _ (by kernel_rfl)] at h
  have hg : Tryz.prog.globalNamed "railhead/keccak.constants" = some 0 := by kernel_rfl
  have hT := tabIs_of_second (k := .u64) (zs := rcL.map fun n => ((n : Nat) : Int)) hg (show (Tryz.prog.globals[0]?).map (·.type) = some 138 by kernel_rfl) Tryz.underlying138 Tryz.underlying26 (by kernel_rfl) (by kernel_rfl) h
  have hc : ∀ i, i < 24 → W.cell? ⟨0, i, none⟩ = some (.int .u64 ((rcL.getD i 0 : Nat) : Int)) := fun i hi => by
    have := hT.cell hg i (by simpa [rcL] using hi)
    rw [this]
    have hl : i < rcL.length := hi
    simp [List.getD_eq_getElem?_getD, List.getElem?_map, List.getElem?_eq_getElem hl]
  exact ⟨lt_of_cell (hc 0 (by omega)), hc⟩
end Go.Proofs.YtadfkiebblmfkaaGreatDoor

/- Raw numbers, two by two, as an argument. Conditions: none. -/
namespace Go.Proofs.YtadfkiebblmfkaaGreatDoor
open Go Go.ChangeShapes Go.WideShapes Go.ChangeAt Go.RowKit Go.Deep

theorem cellsI64 : Tryz.prog.cellsOf 3 = 1 := by kernel_rfl
theorem cellsPairI : Tryz.prog.cellsOf 63 = 2 := by kernel_rfl
theorem trod_pairI {H : Type} {enc : TypeId × Value → H} {P : Program} {w : World} {base : Nat} {spare : Nat → Bool} {held : Bool} {t e : TypeId} {fuel : Nat} {cs : List Value} {x : DataW H × List MemPlace} (ht : P.underlying t = some (.array 2 e)) (hce : P.cellsOf e = 1) (hcs : cs.length = 2)
    (h : DataW.trod enc P w base spare held fuel t cs = some x) :
    ∃ c0 c1 y0 y1 n, cs = [c0, c1] ∧ DataW.trod enc P w base spare held n e [c0] = some y0 ∧ DataW.trod enc P w base spare held n e [c1] = some y1 := by
  match cs, hcs with
  | [c0, c1], _ =>
    cases fuel with
    | zero => simp [DataW.trod] at h
    | succ n =>
      unfold DataW.trod at h
      rw [ht] at h
      have r2 : List.range 2 = [0, 1] := rfl
      simp [r2, hce] at h
      obtain ⟨_, h⟩ := h
      cases h0 : DataW.trod enc P w base spare held n e [c0] with
      | none => simp [h0] at h
      | some y0 =>
        cases h1 : DataW.trod enc P w base spare held n e [c1] with
        | none => simp [h0, h1] at h
        | some y1 => exact ⟨c0, c1, y0, y1, n, rfl, h0, h1⟩

set_option maxRecDepth 100000 in
/-- What the row's reading gives of such an argument. -/
theorem open_raw {H : Type} {enc : TypeId × Value → H} {W : World} {base b : Nat} {sp : Nat → Bool} {held : Bool} {v : Value} {d : DataW H} {ps : List MemPlace}
    (hval : Value.okWide Tryz.prog W .any base 57 v) (hd : DataW.Trod enc Tryz.prog W b sp held 57 v d ps) : ∃ zs, RawAt W v zs := by
  obtain ⟨a0, len, cap, rfl⟩ := okWide_slice Tryz.underlying57 hval
  obtain ⟨fuel, hf⟩ := hd
  rcases open_slice Tryz.underlying57 hf with ⟨hcs, _⟩ | ⟨a, len', cap', m, n, D, Pl, hcs, _, hl, hm, hmm, _, hi⟩
  · simp [Value.cells] at hcs
    obtain ⟨rfl, rfl, rfl⟩ := hcs
    exact ⟨[], none, 0, rfl, by simp, by simp, fun i p hp => by simp at hp⟩
  · simp [Value.cells] at hcs
    obtain ⟨rfl, rfl, rfl⟩ := hcs
    have hlm : len ≤ m := by rw [hmm]; split <;> omega
    have key : ∀ i, i < len → ∃ p : Int × Int, I64 p.1 ∧ I64 p.2 ∧ W.cell? (a.add (i * 2)) = some (.int .i64 p.1) ∧ W.cell? ((a.add (i * 2)).add 1) = some (.int .i64 p.2) := by
      intro i hil
      obtain ⟨cs', hc, ht⟩ := hi i (by omega)
      rw [cellsPairI] at hc
      obtain ⟨_, hcl, hat⟩ := World.cells?_some hc
      obtain ⟨c0, c1, y0, y1, n', rfl, t0, t1⟩ := trod_pairI Tryz.underlying63 cellsI64 hcl ht
      obtain ⟨x0, e0, rfl, w0⟩ := DataW.trod_int Tryz.underlying3 t0
      obtain ⟨x1, e1, rfl, w1⟩ := DataW.trod_int Tryz.underlying3 t1
      simp at e0 e1
      subst e0 e1
      have b0 := bounds_i64 w0
      have b1 := bounds_i64 w1
      refine ⟨(x0, x1), by unfold I64; omega, by unfold I64; omega, ?_, ?_⟩
      · have := hat 0 (by simp)
        simpa [Addr.add] using this
      · have := hat 1 (by simp)
        simpa using this
    have hch : ∃ f : Nat → Int × Int, ∀ i, i < len → I64 (f i).1 ∧ I64 (f i).2 ∧ W.cell? (a.add (i * 2)) = some (.int .i64 (f i).1) ∧ W.cell? ((a.add (i * 2)).add 1) = some (.int .i64 (f i).2) := by
      refine ⟨fun i => if h : i < len then Classical.choose (key i h) else (0, 0), fun i h => ?_⟩
      simp only [dif_pos h]
      exact Classical.choose_spec (key i h)
    obtain ⟨f, hf'⟩ := hch
    have hmax : maxLen ≤ 9223372036854775807 := by decide
    refine ⟨(List.range len).map f, some a, cap, by simp, by simpa using hl, by omega, fun i p hp => ?_⟩
    obtain ⟨hlt, he⟩ := List.getElem?_eq_some_iff.1 hp
    simp at hlt he
    subst he
    obtain ⟨g1, g2, g3, g4⟩ := hf' i hlt
    exact ⟨g1, g2, a, rfl, g3, g4⟩

theorem laidOutAll : laidOutB Tryz.prog = true := by kernel_rfl
/-- Arguments that read memory read as they did, where memory has only grown. -/
theorem trodAll_below {H : Type} {enc : TypeId × Value → H} {W W' : World} (hb : Below W.heap.size W W') : ∀ {ts : List TypeId} {vs : List Value} {ds : List (DataW H)} {ps : List MemPlace},
    (∀ t ∈ ts, Tryz.prog.readableRec t = true ∧ t < Tryz.prog.types.size) → DataW.TrodAll enc Tryz.prog W 0 (fun _ => true) true ts vs ds ps → (∀ x ∈ ps, x.block < W.heap.size) →
    DataW.TrodAll enc Tryz.prog W' 0 (fun b => decide (b < W.heap.size)) true ts vs ds ps
  | [], [], [], _, _, h, _ => h
  | _ :: _, _ :: _, _ :: _, _, ht, ⟨p, q, h1, h2, e⟩, hs =>
    ⟨p, q, Below.trod laidOutAll (ht _ (List.mem_cons.2 (Or.inl rfl))).1 (ht _ (List.mem_cons.2 (Or.inl rfl))).2 h1 hb (fun x hx => hs x (by rw [e]; exact List.mem_append_left _ hx)),
      trodAll_below hb (fun t h => ht t (List.mem_cons.2 (Or.inr h))) h2 (fun x hx => hs x (by rw [e]; exact List.mem_append_right _ hx)), e⟩
/-- A call that yields true and only adds to the heap, whatever its arguments read. -/
theorem post_read {H : Type} {enc : TypeId × Value → H} {f : Func} {s : ChangeSpec} {W W' : World} {args : Array Value} {ds : List (DataW H)} {before : List MemPlace}
    (hW : DataW.Whole enc Tryz.prog f.params.toList s.vars false W args.toList ds [] before) (hvars : s.vars = []) (hft : f.resultTypes = #[4])
    (hfn : s.fn H ds = { results := [.lit (.bool true)], args := ds }) (hA : DataW.TrodAll enc Tryz.prog W 0 (fun _ => true) true f.params.toList args.toList ds before)
    (hts : (f.params.toList.all fun t => Tryz.prog.readableRec t && decide (t < Tryz.prog.types.size)) = true)
    (hb : Below W.heap.size W W') : s.post enc Tryz.prog f false true false false W args (.bool true) W' := by
  have e : (s.fn H (ds ++ [])) = { results := [.lit (.bool true)], args := ds } := by rw [List.append_nil]; exact hfn
  refine ⟨ds, [], before, [], before, [], hW, ?_, ?_, ?_, World.keptBut_mono (fun p hp => absurd hp (by simp)) (hb.frame (fun _ => False)), fun h => by cases h⟩
  · rw [e, hft]
    exact trodAll_mk1 (shut_bool Tryz.underlying4 _)
  · rw [e]
    exact trodAll_below hb (fun t ht => by
      have := List.all_eq_true.1 hts t ht
      simpa using this) hA (fun x hx => by simpa using hW.lt x hx)
  · rw [e, hvars]
    rfl
end Go.Proofs.YtadfkiebblmfkaaGreatDoor

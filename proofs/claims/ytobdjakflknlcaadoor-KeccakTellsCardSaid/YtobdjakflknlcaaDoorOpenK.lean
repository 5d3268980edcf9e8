/- Lanes as an argument: what the row's reading gives, and what they read as behind the call; the table of the rounds' numbers. Conditions: none. -/
import Derived.Test.YtobdjakflknlcaaDoorKecP
import Derived.Lib.LaidTab
import Derived.Test.YtobdjakflknlcaaDoorRows
import Derived.ProofKit
import Derived.LaidMore
import Derived.OpenShut
import Derived.Stop.Joined
import Derived.ChangeSame
import Derived.Below
import Derived.Laws.IdiomArrays
namespace Go.Proofs.YtobdjakflknlcaaDoor
open Go Go.ChangeShapes Go.WideShapes Go.ChangeAt Go.RowKit

theorem ownNone : ownKnob Tryd.prog.godebug = none := by kernel_rfl
theorem cellsU64 : Tryd.prog.cellsOf 22 = 1 := by kernel_rfl
theorem cellsLanes : Tryd.prog.cellsOf 24 = 25 := by kernel_rfl

def cellN : Option Value → Nat
  | some (.int _ x) => x.toNat
  | _ => 0
theorem mapM_all {α β : Type} (f : α → Option β) : ∀ (l : List α) (ys : List β), l.length = ys.length → (∀ (i : Nat) (x : α), l[i]? = some x → f x = ys[i]?) → l.mapM f = some ys
  | [], [], _, _ => rfl
  | x :: l, y :: ys, h, hf => by
    have h0 := hf 0 x rfl
    have ih := mapM_all f l ys (by simpa using h) (fun i z hz => by have := hf (i + 1) z (by simpa using hz); simpa using this)
    simp at h0
    simp [List.mapM_cons, h0, ih]

set_option maxHeartbeats 1000000 in
set_option maxRecDepth 100000 in
theorem open_lanes {H : Type} {enc : TypeId × Value → H} {W : World} {base b : Nat} {sp : Nat → Bool} {held : Bool} {v : Value} {d : DataW H} {ps : List MemPlace}
    (hval : Value.okWide Tryd.prog W .any base 24 v) (hd : DataW.Trod enc Tryd.prog W b sp held 24 v d ps) :
    ∃ A : Nat → Nat, (∀ j, A j < 2 ^ 64) ∧ v = .agg (luC 25 A) ∧ ps = [] ∧ ∀ (W' : World) (b' : Nat) (sp' : Nat → Bool) (held' : Bool), DataW.Trod enc Tryd.prog W' b' sp' held' 24 (.agg (luC 25 A)) d [] := by
  obtain ⟨cs, rfl, hsz, _⟩ : ∃ cs, v = .agg cs ∧ cs.size = Tryd.prog.cellsOf 24 ∧ Row.okWide Tryd.prog W .any base 24 cs := by
    simpa [Value.okWide, Tryd.underlying24] using hval
  rw [cellsLanes] at hsz
  obtain ⟨fuel, hf⟩ := hd
  obtain ⟨xs, m, rfl, hx, hlen, hxl, hi⟩ := DataW.trod_array Tryd.underlying24 hf
  have hl : (Value.cells (.agg cs)).toList = cs.toList := rfl
  rw [hl] at hi hlen
  have each : ∀ i, i < 25 → ∃ z : Int, U64 z ∧ (Lit.int .u64 z).wf = true ∧ cs[i]? = some (.int .u64 z) ∧ xs[i]? = some (.lit (.int .u64 z), []) := fun i h => by
    have h1 := hi i h
    rw [cellsU64, Nat.mul_one] at h1
    have hxs : i < xs.length := by omega
    rw [List.getElem?_eq_getElem hxs] at h1
    obtain ⟨x0, e0, hy, w0⟩ := DataW.trod_int Tryd.underlying22 h1
    have hci : i < cs.toList.length := by simp; omega
    have hd1 : (cs.toList.drop i).take 1 = [cs.toList[i]] := by
      rw [List.drop_eq_getElem_cons hci]; rfl
    rw [hd1] at e0
    refine ⟨x0, ?_, w0, ?_, ?_⟩
    · have := bounds_u64 w0; unfold U64; omega
    · have : cs.toList[i] = .int .u64 x0 := by simpa using e0
      rw [Array.getElem?_eq_getElem (by omega)]
      simpa using this
    · rw [List.getElem?_eq_getElem hxs, hy]
  have hA : ∀ j, cellN cs[j]? < 2 ^ 64 := fun j => by
    rcases Nat.lt_or_ge j 25 with h | h
    · obtain ⟨z, hz, _, hc, _⟩ := each j h
      rw [hc]
      unfold U64 at hz
      show z.toNat < 2 ^ 64
      omega
    · rw [Array.getElem?_eq_none (by omega)]; decide
  have hcs : cs = luC 25 (fun j => cellN cs[j]?) := by
    refine Array.ext_getElem? fun j => ?_
    rcases Nat.lt_or_ge j 25 with h | h
    · obtain ⟨z, hz, _, hc, _⟩ := each j h
      rw [luC_get 25 _ j h, hc]
      unfold U64 at hz
      show some (Value.int .u64 z) = some (Value.int .u64 ((z.toNat : Nat) : Int))
      rw [Int.toNat_of_nonneg hz.1]
    · rw [Array.getElem?_eq_none (by omega), Array.getElem?_eq_none (by rw [luC_size]; omega)]
  have hps : xs.flatMap (·.2) = [] := by
    rw [List.flatMap_eq_nil_iff]
    intro x hxm
    obtain ⟨i, hi2, rfl⟩ := List.getElem_of_mem hxm
    obtain ⟨z, _, _, _, hxi⟩ := each i (by omega)
    rw [List.getElem?_eq_getElem hi2] at hxi
    rw [Option.some.inj hxi]
  simp only [Prod.mk.injEq] at hx
  obtain ⟨rfl, rfl⟩ := hx
  refine ⟨fun j => cellN cs[j]?, hA, congrArg Value.agg hcs, hps, fun W' b' sp' held' => ⟨2, ?_⟩⟩
  rw [← hcs]
  have hm : ((List.range 25).mapM fun i => DataW.trod enc Tryd.prog W' b' sp' held' 1 22 ((cs.toList.drop (i * Tryd.prog.cellsOf 22)).take (Tryd.prog.cellsOf 22))) = some xs := by
    refine mapM_all _ _ _ (by simp [hxl]) (fun i x hx => ?_)
    obtain ⟨hi3, hxi⟩ := List.getElem?_eq_some_iff.1 hx
    simp at hxi hi3
    subst hxi
    obtain ⟨z, hz, wz, hc, hxz⟩ := each i hi3
    rw [hxz, cellsU64, Nat.mul_one]
    have hci : i < cs.toList.length := by simp; omega
    have hce : cs.toList[i] = .int .u64 z := by
      have := hc
      rw [Array.getElem?_eq_getElem (by omega)] at this
      simpa using Option.some.inj this
    rw [show (cs.toList.drop i).take 1 = [cs.toList[i]] by rw [List.drop_eq_getElem_cons hci]; rfl, hce]
    simp [DataW.trod, Tryd.underlying22, wz]
  have hlc : cs.toList.length = Tryd.prog.cellsOf 24 := by rw [cellsLanes]; simpa using hsz
  show DataW.trod enc Tryd.prog W' b' sp' held' 2 24 cs.toList = _
  unfold DataW.trod
  rw [Tryd.underlying24]
  simp only []
  rw [if_pos hlc, hm]
  simp only [Option.map_some, hps]

/-- Where no argument reads memory, and no variable is read: a call that yields true and only adds to the heap. -/
theorem post_true {H : Type} {enc : TypeId × Value → H} {f : Func} {s : ChangeSpec} {W W' : World} {args : Array Value} {ds : List (DataW H)}
    (hW : DataW.Whole enc Tryd.prog f.params.toList s.vars false W args.toList ds [] []) (hvars : s.vars = []) (hft : f.resultTypes = #[4])
    (hfn : s.fn H ds = { results := [.lit (.bool true)], args := ds })
    (hargs : ∀ (W' : World) (b : Nat) (sp : Nat → Bool) (held : Bool), DataW.TrodAll enc Tryd.prog W' b sp held f.params.toList args.toList ds [])
    (hb : Below W.heap.size W W') : s.post enc Tryd.prog f false true false false W args (.bool true) W' := by
  have e : (s.fn H (ds ++ [])) = { results := [.lit (.bool true)], args := ds } := by rw [List.append_nil]; exact hfn
  refine ⟨ds, [], [], [], [], [], hW, ?_, ?_, ?_, World.keptBut_mono (fun p hp => absurd hp (by simp)) (hb.frame (fun _ => False)), fun h => by cases h⟩
  · rw [e, hft]
    exact trodAll_mk1 (shut_bool Tryd.underlying4 _)
  · rw [e]
    exact hargs _ _ _ _
  · rw [e, hvars]
    rfl

theorem i64_of_wf {x : Int} (h : (Lit.int .i64 x).wf = true) : I64 x := by
  have := bounds_i64 h
  unfold I64; omega


theorem tab_of_laid {W : World} (h : laidMetH Tryd.prog [("railhead/keccak.constants", Rows.laid_railhead_keccak_constants)] W) : Tab W := by
  rw [MakeChecks.laidMetH_plain _ _ _ (by kernel_rfl)] at h
  have hg : Tryd.prog.globalNamed "railhead/keccak.constants" = some 0 := by kernel_rfl
  have hT := Lib.tabIs_of_head (k := .u64) (zs := rcL.map fun n => ((n : Nat) : Int)) hg (show (Tryd.prog.globals[0]?).map (·.type) = some 35 by kernel_rfl) Tryd.underlying35 Tryd.underlying22 (by kernel_rfl) (by kernel_rfl) h
  have hc : ∀ i, i < 24 → W.cell? ⟨0, i, none⟩ = some (.int .u64 ((rcL.getD i 0 : Nat) : Int)) := fun i hi => by
    have := hT.cell hg i (by simpa [rcL] using hi)
    rw [this]
    have hl : i < rcL.length := hi
    simp [List.getD_eq_getElem?_getD, List.getElem?_map, List.getElem?_eq_getElem hl]
  refine ⟨?_, hc⟩
  exact lt_of_cell (hc 0 (by omega))
end Go.Proofs.YtobdjakflknlcaaDoor

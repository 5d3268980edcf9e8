/- A word as an argument: what the row's reading gives, and what it reads as behind the call. Conditions: none. -/
import Derived.Test.YtbkgipggblphlaaLawK
import Derived.Test.YtbkgipggblphlaaRows
import Derived.ProofKit
import Derived.LaidMore
import Derived.OpenShut
import Derived.Stop.Joined
import Derived.ChangeSame
import Derived.Below
import Derived.Laws.IdiomArrays
namespace Go.Proofs.Ytbkgipggblphlaa
open Go Go.ChangeShapes Go.WideShapes Go.ChangeAt Go.RowKit

theorem ownNone : ownKnob Try.prog.godebug = none := by kernel_rfl
theorem cellsU64 : Try.prog.cellsOf 27 = 1 := by kernel_rfl
theorem cellsWord : Try.prog.cellsOf 29 = 4 := by kernel_rfl
theorem list4 {α : Type} (l : List α) (h : (⟨l⟩ : Array α).size = 4) : ∃ a b c d, l = [a, b, c, d] := by
  match l, h with
  | [a, b, c, d], _ => exact ⟨a, b, c, d, rfl⟩
theorem u64_of_wf {x : Int} (h : (Lit.int .u64 x).wf = true) : U64 x := by
  have := bounds_u64 h
  unfold U64; omega

theorem word_of (x0 x1 x2 x3 : Int) (h0 : U64 x0) (h1 : U64 x1) (h2 : U64 x2) (h3 : U64 x3) : ∃ n, W256 n ∧ wv n = .agg #[.int .u64 x0, .int .u64 x1, .int .u64 x2, .int .u64 x3] := by
  obtain ⟨z, z0, z1, z2, z3⟩ : ∃ z : Nat → Int, z 0 = x0 ∧ z 1 = x1 ∧ z 2 = x2 ∧ z 3 = x3 := ⟨fun k => if k = 0 then x0 else if k = 1 then x1 else if k = 2 then x2 else x3, rfl, rfl, rfl, rfl⟩
  subst z0 z1 z2 z3
  obtain ⟨g0, g1⟩ := num_lt z h0 h1 h2 h3
  have en : num z = ((num z).toNat : Int) := (Int.toNat_of_nonneg g0).symm
  have e := lim_num z (num z).toNat h0 h1 h2 h3 en
  refine ⟨_, ?_, wv_of e⟩
  unfold W256
  rw [en] at g1
  exact Int.ofNat_lt.1 g1

set_option maxHeartbeats 400000 in
set_option maxRecDepth 100000 in
theorem open_word {H : Type} {enc : TypeId × Value → H} {W : World} {base b : Nat} {sp : Nat → Bool} {held : Bool} {v : Value} {d : DataW H} {ps : List MemPlace}
    (hval : Value.okWide Try.prog W .any base 29 v) (hd : DataW.Trod enc Try.prog W b sp held 29 v d ps) :
    ∃ n, W256 n ∧ v = wv n ∧ ps = [] ∧ ∀ (W' : World) (b' : Nat) (sp' : Nat → Bool) (held' : Bool), DataW.Trod enc Try.prog W' b' sp' held' 29 (wv n) d [] := by
  obtain ⟨cs, rfl, hsz, _⟩ : ∃ cs, v = .agg cs ∧ cs.size = Try.prog.cellsOf 29 ∧ Row.okWide Try.prog W .any base 29 cs := by
    simpa [Value.okWide, Try.underlying29] using hval
  rw [cellsWord] at hsz
  obtain ⟨l⟩ := cs
  obtain ⟨c0, c1, c2, c3, rfl⟩ := list4 l hsz
  obtain ⟨fuel, hf⟩ := hd
  obtain ⟨y0, y1, y2, y3, m, hx, hy0, hy1, hy2, hy3⟩ := trod_array4 Try.underlying29 cellsU64 hf
  obtain ⟨x0, e0, rfl, w0⟩ := DataW.trod_int Try.underlying27 hy0
  obtain ⟨x1, e1, rfl, w1⟩ := DataW.trod_int Try.underlying27 hy1
  obtain ⟨x2, e2, rfl, w2⟩ := DataW.trod_int Try.underlying27 hy2
  obtain ⟨x3, e3, rfl, w3⟩ := DataW.trod_int Try.underlying27 hy3
  simp at e0 e1 e2 e3
  subst e0 e1 e2 e3
  simp only [Prod.mk.injEq] at hx
  obtain ⟨rfl, rfl⟩ := hx
  obtain ⟨n, hn, hv⟩ := word_of x0 x1 x2 x3 (u64_of_wf w0) (u64_of_wf w1) (u64_of_wf w2) (u64_of_wf w3)
  refine ⟨n, hn, hv.symm, rfl, fun W' b' sp' held' => ?_⟩
  rw [hv]
  exact ⟨2, by simp [DataW.trod, Value.cells, Try.underlying29, Try.underlying27, cellsWord, cellsU64, w0, w1, w2, w3, show List.range 4 = [0, 1, 2, 3] from rfl]⟩

/-- Where no argument reads memory, and no variable is read: a call that yields true and only adds to the heap. -/
theorem post_true {H : Type} {enc : TypeId × Value → H} {f : Func} {s : ChangeSpec} {W W' : World} {args : Array Value} {ds : List (DataW H)}
    (hW : DataW.Whole enc Try.prog f.params.toList s.vars false W args.toList ds [] []) (hvars : s.vars = []) (hft : f.resultTypes = #[4])
    (hfn : s.fn H ds = { results := [.lit (.bool true)], args := ds })
    (hargs : ∀ (W' : World) (b : Nat) (sp : Nat → Bool) (held : Bool), DataW.TrodAll enc Try.prog W' b sp held f.params.toList args.toList ds [])
    (hb : Below W.heap.size W W') : s.post enc Try.prog f false true false false W args (.bool true) W' := by
  have e : (s.fn H (ds ++ [])) = { results := [.lit (.bool true)], args := ds } := by rw [List.append_nil]; exact hfn
  refine ⟨ds, [], [], [], [], [], hW, ?_, ?_, ?_, World.keptBut_mono (fun p hp => absurd hp (by simp)) (hb.frame (fun _ => False)), fun h => by cases h⟩
  · rw [e, hft]
    exact trodAll_mk1 (shut_bool Try.underlying4 _)
  · rw [e]
    exact hargs _ _ _ _
  · rw [e, hvars]
    rfl

theorem i64_of_wf {x : Int} (h : (Lit.int .i64 x).wf = true) : I64 x := by
  have := bounds_i64 h
  unfold I64; omega

end Go.Proofs.Ytbkgipggblphlaa

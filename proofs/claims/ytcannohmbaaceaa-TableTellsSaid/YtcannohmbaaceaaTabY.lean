/- One call of Put in a region that draws its order: what is known meanwhile. Conditions: none. -/
import Derived.Test.YtcannohmbaaceaaTBack
import Derived.Test.YtcannohmbaaceaaTabX
import Derived.Test.YtcannohmbaaceaaGhost2
namespace Go.Proofs.Ytcannohmbaaceaa
open Go Go.RowKit

/-- ic: the call, im: its value moved, ie: the first of it, ia: the assignment. -/
def PutU (W : World) (out : List Sl) (ic im ie ia : Nat) (f : Nat → Bool) (g : Nat → Value) (y : World) : Prop :=
  Below W.heap.size W y ∧ (f ic = true → ∃ sv, g ic = .tuple #[sv, .int .i64 0] ∧ RowT y W.heap.size sv out) ∧ (f im = true → g im = g ic) ∧ (f ie = true → ∃ e, g ic = .tuple #[g ie, e]) ∧ (f ia = true → g ia = g ie)
variable {W : World} {out : List Sl} {ic im ie ia : Nat} {f : Nat → Bool} {g : Nat → Value} {y : World}
theorem PutU.later (h : PutU W out ic im ie ia f g y) {z : World} (hb : Below y.heap.size y z) : PutU W out ic im ie ia f g z := by
  obtain ⟨h1, h2, h3, h4, h5⟩ := h
  exact ⟨h1.trans (hb.mono h1.size), fun h => let ⟨sv, e1, e2⟩ := h2 h; ⟨sv, e1, e2.later hb⟩, h3, h4, h5⟩
theorem PutU.same {f' : Nat → Bool} {g' : Nat → Value} (h : PutU W out ic im ie ia f g y) (hc : f ic = f' ic ∧ g ic = g' ic) (hm : f im = f' im ∧ g im = g' im) (he : f ie = f' ie ∧ g ie = g' ie) (ha : f ia = f' ia ∧ g ia = g' ia) : PutU W out ic im ie ia f' g' y := by
  unfold PutU at h ⊢
  rw [hc.1, hc.2, hm.1, hm.2, he.1, he.2, ha.1, ha.2] at h
  exact h
theorem PutU.start : PutU W out ic im ie ia (fun _ => false) g { W with drawn := W.drawn + 1 } := by
  refine ⟨(Below.refl _ _).drew, ?_, ?_, ?_, ?_⟩ <;> (intro h; exact absurd h (by simp))
theorem PutU.call (h : PutU W out ic im ie ia f g y) (h1 : f im = false) (h2 : f ie = false) (h3 : f ia = false) (n1 : im ≠ ic) (n2 : ie ≠ ic) (n3 : ia ≠ ic) {sv : Value} {w' : World} (hb : Below y.heap.size y w') (hr : RowT w' y.heap.size sv out) :
    PutU W out ic im ie ia (upd f ic true) (upd g ic (.tuple #[sv, .int .i64 0])) w' := by
  refine ⟨h.1.trans (hb.mono h.1.size), fun _ => ⟨sv, upd_self _ _ _, hr.lower h.1.size⟩, fun e => ?_, fun e => ?_, fun e => ?_⟩
  · rw [upd_ne f true n1, h1] at e; cases e
  · rw [upd_ne f true n2, h2] at e; cases e
  · rw [upd_ne f true n3, h3] at e; cases e
theorem PutU.move (h : PutU W out ic im ie ia f g y) (n1 : ic ≠ im) (n2 : ie ≠ im) (n3 : ia ≠ im) :
    PutU W out ic im ie ia (upd f im true) (upd g im (g ic)) y := by
  obtain ⟨a1, a2, a3, a4, a5⟩ := h
  refine ⟨a1, fun e => ?_, fun _ => ?_, fun e => ?_, fun e => ?_⟩
  · rw [upd_ne f true n1] at e; rw [upd_ne g _ n1]; exact a2 e
  · rw [upd_self, upd_ne g _ n1]
  · rw [upd_ne f true n2] at e; rw [upd_ne g _ n1, upd_ne g _ n2]; exact a4 e
  · rw [upd_ne f true n3] at e; rw [upd_ne g _ n2, upd_ne g _ n3]; exact a5 e
theorem PutU.first (h : PutU W out ic im ie ia f g y) {sv e : Value} (hc : g ic = .tuple #[sv, e]) (h3 : f ia = false) (n1 : ic ≠ ie) (n2 : im ≠ ie) (n3 : ia ≠ ie) :
    PutU W out ic im ie ia (upd f ie true) (upd g ie sv) y := by
  obtain ⟨a1, a2, a3, a4, a5⟩ := h
  refine ⟨a1, fun e => ?_, fun e => ?_, fun _ => ⟨e, ?_⟩, fun e => ?_⟩
  · rw [upd_ne f true n1] at e; rw [upd_ne g _ n1]; exact a2 e
  · rw [upd_ne f true n2] at e; rw [upd_ne g _ n1, upd_ne g _ n2]; exact a3 e
  · rw [upd_self, upd_ne g _ n1]; exact hc
  · rw [upd_ne f true n3, h3] at e; cases e
theorem PutU.assign (h : PutU W out ic im ie ia f g y) (n1 : ic ≠ ia) (n2 : im ≠ ia) (n3 : ie ≠ ia) :
    PutU W out ic im ie ia (upd f ia true) (upd g ia (g ie)) y := by
  obtain ⟨a1, a2, a3, a4, a5⟩ := h
  refine ⟨a1, fun e => ?_, fun e => ?_, fun e => ?_, fun _ => ?_⟩
  · rw [upd_ne f true n1] at e; rw [upd_ne g _ n1]; exact a2 e
  · rw [upd_ne f true n2] at e; rw [upd_ne g _ n1, upd_ne g _ n2]; exact a3 e
  · rw [upd_ne f true n3] at e; rw [upd_ne g _ n1, upd_ne g _ n3]; exact a4 e
  · rw [upd_self, upd_ne g _ n3]
theorem PutU.other (h : PutU W out ic im ie ia f g y) (i : Nat) (u : Value) (n0 : ic ≠ i) (n1 : im ≠ i) (n2 : ie ≠ i) (n3 : ia ≠ i) :
    PutU W out ic im ie ia (upd f i true) (upd g i u) y :=
  h.same ⟨(upd_ne f true n0).symm, (upd_ne g u n0).symm⟩ ⟨(upd_ne f true n1).symm, (upd_ne g u n1).symm⟩ ⟨(upd_ne f true n2).symm, (upd_ne g u n2).symm⟩ ⟨(upd_ne f true n3).symm, (upd_ne g u n3).symm⟩
theorem PutU.got (h : PutU W out ic im ie ia f g y) (hc : f ic = true) : ∃ sv, g ic = .tuple #[sv, .int .i64 0] ∧ RowT y W.heap.size sv out := h.2.1 hc
theorem PutU.moved (h : PutU W out ic im ie ia f g y) (hc : f ic = true) (hm : f im = true) : ∃ sv, g ic = .tuple #[sv, .int .i64 0] ∧ g im = .tuple #[sv, .int .i64 0] := by
  obtain ⟨sv, e, _⟩ := h.2.1 hc
  exact ⟨sv, e, (h.2.2.1 hm).trans e⟩
theorem PutU.done (h : PutU W out ic im ie ia f g y) (hc : f ic = true) (hm : f im = true) (he : f ie = true) (ha : f ia = true) :
    ∃ sv, g ic = .tuple #[sv, .int .i64 0] ∧ g im = .tuple #[sv, .int .i64 0] ∧ g ie = sv ∧ g ia = sv ∧ RowT y W.heap.size sv out ∧ Below W.heap.size W y := by
  obtain ⟨a1, a2, a3, a4, a5⟩ := h
  obtain ⟨sv, e, hr⟩ := a2 hc
  obtain ⟨e2, h2⟩ := a4 he
  rw [e] at h2
  injection h2 with h2
  have h3 : sv = g ie := by
    have := congrArg (fun a => a[0]?) h2
    simpa using this
  exact ⟨sv, e, (a3 hm).trans e, h3.symm, (a5 ha).trans h3.symm, hr, a1⟩
theorem putL_wide {l : List Sl} {x : Sl} (hl : ∀ x ∈ l, W256 x.1 ∧ W256 x.2) (hx : W256 x.1 ∧ W256 x.2) : ∀ y ∈ putL l x, W256 y.1 ∧ W256 y.2 :=
  mergeL_wide l [x] hl (fun y hy => by simp at hy; subst hy; exact hx)
theorem take_snoc {l : List Sl} {k : Nat} {x : Sl} (h : l[k]? = some x) : l.take (k + 1) = l.take k ++ [x] := by
  rw [List.take_add_one, h]
  rfl
theorem putsL_take {a l : List Sl} {k : Nat} {x : Sl} (h : l[k]? = some x) : mergeL (putsL a (l.take k)) [x] = putsL a (l.take (k + 1)) := by
  rw [take_snoc h, putsL_snoc]
  rfl
theorem putsL_short (a l : List Sl) (k : Nat) : (putsL a (l.take k)).length ≤ a.length + l.length := by
  have h1 := putsL_len a (l.take k)
  have h2 : (l.take k).length ≤ l.length := by rw [List.length_take]; omega
  omega
end Go.Proofs.Ytcannohmbaaceaa

/- Part. -/
import Derived.Test.YtlihnlkcgiopoaaDoorJ12
set_option maxRecDepth 100000
set_option maxHeartbeats 16000000
namespace Go.Proofs.YtlihnlkcgiopoaaDoor
section
open Go Go.ChangeShapes Go.WideShapes Go.ChangeAt Go.RowKit Go.Deep
set_option maxRecDepth 100000
theorem cellsRaws : Tryd.prog.cellsOf 26 = 1 := by kernel_rfl
theorem cellsRaw2 : Tryd.prog.cellsOf 27 = 2 := by kernel_rfl
theorem raw_of_trod {H : Type} {enc : TypeId × Value → H} {W : World} {b : Nat} {sp : Nat → Bool} {held : Bool} {fuel : Nat} {v : Value} {x : DataW H × List MemPlace}
  (hf : DataW.trod enc Tryd.prog W b sp held fuel 26 [v] = some x) : ∃ zs, RawAt W v zs := by
 rcases open_slice Tryd.underlying26 hf with ⟨hcs, _⟩ | ⟨a, len, cap, m, n, D, Pl, hcs, _, hl, hm, hmm, _, hi⟩
 ·injection hcs with hcs _
  subst hcs
  exact ⟨[], none, 0, rfl, by simp, by simp, fun i p hp => by simp at hp⟩
 ·injection hcs with hcs _
  subst hcs
  have hlm : len ≤ m := by rw [hmm]; split <;> omega
  have key : ∀ i, i < len → ∃ p : Int × Int, I64 p.1 ∧ I64 p.2 ∧ W.cell? (a.add (i * 2)) = some (.int .i64 p.1) ∧ W.cell? ((a.add (i * 2)).add 1) = some (.int .i64 p.2) := by
   intro i hil
   obtain ⟨cs', hc, ht⟩ := hi i (by omega)
   rw [cellsPairI] at hc
   obtain ⟨_, hcl, hat⟩ := World.cells?_some hc
   obtain ⟨c0, c1, y0, y1, n', rfl, t0, t1⟩ := trod_pairI Tryd.underlying88 cellsI64 hcl ht
   obtain ⟨x0, e0, rfl, w0⟩ := DataW.trod_int Tryd.underlying3 t0
   obtain ⟨x1, e1, rfl, w1⟩ := DataW.trod_int Tryd.underlying3 t1
   simp at e0 e1
   subst e0 e1
   have b0 := bounds_i64 w0
   have b1 := bounds_i64 w1
   refine ⟨(x0, x1), by unfold I64; omega, by unfold I64; omega, ?_, ?_⟩
   ·have := hat 0 (by simp)
    simpa [Addr.add] using this
   ·have := hat 1 (by simp)
    simpa using this
  have hch : ∃ f : Nat → Int × Int, ∀ i, i < len → I64 (f i).1 ∧ I64 (f i).2 ∧ W.cell? (a.add (i * 2)) = some (.int .i64 (f i).1) ∧ W.cell? ((a.add (i * 2)).add 1) = some (.int .i64 (f i).2) := by
   refine ⟨fun i => if h : i < len then Classical.choose (key i h) else (0, 0), fun i h => ?_⟩
   simp only [dif_pos h]
   exact Classical.choose_spec (key i h)
  obtain ⟨f, hf'⟩ := hch
  have hmax : maxLen ≤ 9223372036854775807 := by decide
  refine ⟨(List.range len).map f, some a, cap, by simp, by simpa using hl, by omega, fun i p hp => ?_⟩
  obtain ⟨hlt, he⟩ := List.getElem?_eq_some_iff.1 hp
  simp at hlt he
  subst he
  obtain ⟨g1, g2, g3, g4⟩ := hf' i hlt
  exact ⟨g1, g2, a, rfl, g3, g4⟩
theorem open_raw2 {H : Type} {enc : TypeId × Value → H} {W : World} {base b : Nat} {sp : Nat → Bool} {held : Bool} {v : Value} {d : DataW H} {ps : List MemPlace}
  (hval : Value.okWide Tryd.prog W .any base 27 v) (hd : DataW.Trod enc Tryd.prog W b sp held 27 v d ps) : ∃ v0 v1 z0 z1, v = .agg #[v0, v1] ∧ RawAt W v0 z0 ∧ RawAt W v1 z1 := by
 obtain ⟨cs, rfl, hsz, _⟩ : ∃ cs, v = .agg cs ∧ cs.size = Tryd.prog.cellsOf 27 ∧ Row.okWide Tryd.prog W .any base 27 cs := by
  simpa [Value.okWide, Tryd.underlying27] using hval
 rw [cellsRaw2] at hsz
 obtain ⟨l⟩ := cs
 obtain ⟨v0, v1, rfl⟩ : ∃ a b, l = [a, b] := by
  match l, hsz with
  | [a, b], _ => exact ⟨a, b, rfl⟩
 obtain ⟨fuel, hf⟩ := hd
 obtain ⟨xs, m, rfl, hx, hlen, hxl, hi⟩ := DataW.trod_array Tryd.underlying27 hf
 have h0 := hi 0 (by omega)
 have h1 := hi 1 (by omega)
 rw [cellsRaws] at h0 h1
 rw [List.getElem?_eq_getElem (by omega)] at h0 h1
 obtain ⟨z0, k0⟩ := raw_of_trod (v := v0) h0
 obtain ⟨z1, k1⟩ := raw_of_trod (v := v1) h1
 exact ⟨v0, v1, z0, z1, rfl, k0, k1⟩
end
section
open Go Go.ChangeShapes Go.WideShapes Go.ChangeAt Go.RowKit Go.Deep
set_option maxRecDepth 100000
end
section
open Go Go.ChangeShapes Go.WideShapes Go.ChangeAt Go.RowKit Go.Deep
set_option maxRecDepth 100000
theorem cellsBoolF : Tryd.prog.cellsOf 4 = 1 := by kernel_rfl
theorem cellsFlags : Tryd.prog.cellsOf 25 = 3 := by kernel_rfl
theorem trod_three {H : Type} {enc : TypeId × Value → H} {P : Program} {w : World} {base : Nat} {spare : Nat → Bool} {held : Bool} {t e : TypeId} {fuel : Nat} {cs : List Value} {x : DataW H × List MemPlace} (ht : P.underlying t = some (.array 3 e)) (hce : P.cellsOf e = 1) (hcs : cs.length = 3)
  (h : DataW.trod enc P w base spare held fuel t cs = some x) :
  ∃ c0 c1 c2 y0 y1 y2 n, cs = [c0, c1, c2] ∧ DataW.trod enc P w base spare held n e [c0] = some y0 ∧ DataW.trod enc P w base spare held n e [c1] = some y1 ∧ DataW.trod enc P w base spare held n e [c2] = some y2 := by
 match cs, hcs with
 | [c0, c1, c2], _ =>
  cases fuel with
  | zero => simp [DataW.trod] at h
  | succ n =>
   unfold DataW.trod at h
   rw [ht] at h
   have r3 : List.range 3 = [0, 1, 2] := rfl
   simp [r3, hce] at h
   obtain ⟨_, h⟩ := h
   cases h0 : DataW.trod enc P w base spare held n e [c0] with
   | none => simp [h0] at h
   | some y0 =>
    cases h1 : DataW.trod enc P w base spare held n e [c1] with
    | none => simp [h0, h1] at h
    | some y1 =>
     cases h2 : DataW.trod enc P w base spare held n e [c2] with
     | none => simp [h0, h1, h2] at h
     | some y2 => exact ⟨c0, c1, c2, y0, y1, y2, n, rfl, h0, h1, h2⟩
theorem open_flags {H : Type} {enc : TypeId × Value → H} {W : World} {base b : Nat} {sp : Nat → Bool} {held : Bool} {v : Value} {d : DataW H} {ps : List MemPlace}
  (hval : Value.okWide Tryd.prog W .any base 25 v) (hd : DataW.Trod enc Tryd.prog W b sp held 25 v d ps) : ∃ p q r, v = .agg #[.bool p, .bool q, .bool r] := by
 obtain ⟨cs, rfl, hsz, _⟩ : ∃ cs, v = .agg cs ∧ cs.size = Tryd.prog.cellsOf 25 ∧ Row.okWide Tryd.prog W .any base 25 cs := by
  simpa [Value.okWide, Tryd.underlying25] using hval
 rw [cellsFlags] at hsz
 obtain ⟨l⟩ := cs
 obtain ⟨fuel, hf⟩ := hd
 obtain ⟨c0, c1, c2, y0, y1, y2, n', e, t0, t1, t2⟩ := trod_three (cs := l) Tryd.underlying25 cellsBoolF hsz hf
 subst e
 obtain ⟨x0, e0, rfl⟩ := DataW.trod_bool Tryd.underlying4 t0
 obtain ⟨x1, e1, rfl⟩ := DataW.trod_bool Tryd.underlying4 t1
 obtain ⟨x2, e2, rfl⟩ := DataW.trod_bool Tryd.underlying4 t2
 simp at e0 e1 e2
 subst e0 e1 e2
 exact ⟨x0, x1, x2, rfl⟩
end
end Go.Proofs.YtlihnlkcgiopoaaDoor

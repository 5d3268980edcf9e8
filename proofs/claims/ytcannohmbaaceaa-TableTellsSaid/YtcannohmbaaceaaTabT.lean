/- Slots put in their order, one behind the other; a slot appended to a row of the call's own. Conditions: none. -/
import Derived.Test.YtcannohmbaaceaaTabS
import Derived.Test.YtcannohmbaaceaaPick
namespace Go.Proofs.Ytcannohmbaaceaa
open Go Go.RowKit

/-- What a loop over slots in their order has made of the first k, where x is put among them. -/
structure Ins (x : Sl) (l : List Sl) (k : Nat) (now : List Sl) (done : Bool) : Prop where
  rise : Rise now
  len : now.length ≤ k + (if done = true then 1 else 0)
  ahead : ∀ y ∈ now, ∀ (j : Nat) (z : Sl), k ≤ j → l[j]? = some z → y.1 < z.1
  notyet : done = false → ∀ y ∈ now, y.1 < x.1
  yet : done = true → ∀ (j : Nat) (z : Sl), k ≤ j → l[j]? = some z → x.1 < z.1
  from' : ∀ y ∈ now, y = x ∨ y ∈ l
theorem Rise.snoc {l : List Sl} {x : Sl} (h : Rise l) (hx : ∀ y ∈ l, y.1 < x.1) : Rise (l ++ [x]) := by
  unfold Rise at *
  rw [List.pairwise_append]
  exact ⟨h, by simp, fun a ha b hb => by simp at hb; subst hb; exact hx a ha⟩
theorem rise_lt_at {l : List Sl} (h : Rise l) {i j : Nat} {y z : Sl} (hy : l[i]? = some y) (hz : l[j]? = some z) (hij : i < j) : y.1 < z.1 := by
  have := List.pairwise_iff_getElem.1 h i j (List.getElem?_eq_some_iff.1 hy).1 (List.getElem?_eq_some_iff.1 hz).1 hij
  rw [(List.getElem?_eq_some_iff.1 hy).2, (List.getElem?_eq_some_iff.1 hz).2] at this
  exact this
theorem Ins.start (x : Sl) (l : List Sl) : Ins x l 0 [] false :=
  ⟨by unfold Rise; simp, by simp, by simp, by simp, by simp, by simp⟩
variable {x y : Sl} {l now : List Sl} {k : Nat} {done : Bool}
/-- The slot is put ahead of this one. -/
theorem Ins.put (h : Ins x l k now false) (hl : Rise l) (hy : l[k]? = some y) (hxy : x.1 < y.1) : Ins x l k (now ++ [x]) true :=
  ⟨h.rise.snoc (h.notyet rfl), by have := h.len; simp at this ⊢; omega, fun a ha j z hj hz => by
    rcases List.mem_append.1 ha with ha | ha
    · exact h.ahead a ha j z hj hz
    · simp at ha; subst ha
      rcases Nat.lt_or_eq_of_le hj with hj | rfl
      · exact Nat.lt_trans hxy (rise_lt_at hl hy hz hj)
      · rw [hy] at hz; injection hz with hz; subst hz; exact hxy, by simp, fun _ j z hj hz => by
      rcases Nat.lt_or_eq_of_le hj with hj | rfl
      · exact Nat.lt_trans hxy (rise_lt_at hl hy hz hj)
      · rw [hy] at hz; injection hz with hz; subst hz; exact hxy, fun a ha => by
    rcases List.mem_append.1 ha with ha | ha
    · exact h.from' a ha
    · simp at ha; exact .inl ha⟩
/-- It takes this one's place. -/
theorem Ins.same (h : Ins x l k now false) (hl : Rise l) (hy : l[k]? = some y) (hxy : x.1 = y.1) : Ins x l (k + 1) (now ++ [x]) true :=
  ⟨h.rise.snoc (h.notyet rfl), by have := h.len; simp at this ⊢; omega, fun a ha j z hj hz => by
    rcases List.mem_append.1 ha with ha | ha
    · exact h.ahead a ha j z (by omega) hz
    · simp at ha; subst ha
      rw [hxy]
      exact rise_lt_at hl hy hz (by omega), by simp, fun _ j z hj hz => by
      rw [hxy]
      exact rise_lt_at hl hy hz (by omega), fun a ha => by
    rcases List.mem_append.1 ha with ha | ha
    · exact h.from' a ha
    · simp at ha; exact .inl ha⟩
/-- This one stays. -/
theorem Ins.stay (h : Ins x l k now done) (hl : Rise l) (hy : l[k]? = some y) (hd : done = false → y.1 < x.1) : Ins x l (k + 1) (now ++ [y]) done :=
  ⟨h.rise.snoc (fun a ha => h.ahead a ha k y (Nat.le_refl _) hy), by have := h.len; simp at this ⊢; omega, fun a ha j z hj hz => by
    rcases List.mem_append.1 ha with ha | ha
    · exact h.ahead a ha j z (by omega) hz
    · simp at ha; subst ha
      exact rise_lt_at hl hy hz (by omega), fun e a ha => by
    rcases List.mem_append.1 ha with ha | ha
    · exact h.notyet e a ha
    · simp at ha; subst ha; exact hd e, fun e j z hj hz => h.yet e j z (by omega) hz, fun a ha => by
    rcases List.mem_append.1 ha with ha | ha
    · exact h.from' a ha
    · simp at ha; subst ha; exact .inr (List.mem_of_getElem? hy)⟩
/-- What there is at the end. -/
theorem Ins.end' (h : Ins x l l.length now false) : Rise (now ++ [x]) ∧ (now ++ [x]).length ≤ l.length + 1 ∧ ∀ y ∈ now ++ [x], y = x ∨ y ∈ l :=
  ⟨h.rise.snoc (h.notyet rfl), by have := h.len; simp at this ⊢; omega, fun a ha => by
    rcases List.mem_append.1 ha with ha | ha
    · exact h.from' a ha
    · simp at ha; exact .inl ha⟩
theorem Ins.endT (h : Ins x l l.length now true) : Rise now ∧ now.length ≤ l.length + 1 ∧ ∀ y ∈ now, y = x ∨ y ∈ l :=
  ⟨h.rise, by have := h.len; simpa using this, h.from'⟩

/-- A slot behind a row of the call's own. -/
theorem push_slot (A : World) (base : Nat) (v : Value) (l : List Sl) (h : RowT A base v l) (hb : base ≤ A.heap.size) (hl : l.length ≤ 100000) (y : Sl) :
    ∃ v' w', (Builtin.append_ #[22, 22] 22 #[v, .slice (some ⟨A.heap.size, 0, none⟩) 1 1]).run Try.prog (A.alloc (.cells (slC y).toArray 31)) = .ok v' w' ∧ RowT w' base v' (l ++ [y]) ∧ Below base A w' := by
  have NS := Has.new A 31 (slC y).toArray
  have q9 := (Below.refl A.heap.size A).alloc (Nat.le_refl _) (.cells (slC y).toArray 31)
  obtain ⟨i, hi, hz, hsize, hby⟩ := infoS_of
  have hrow9 := h.later q9
  obtain ⟨v', w', hr, hown, hgr, hnb⟩ := run_append_src (P := Try.prog) (A.alloc (.cells (slC y).toArray 31)) base 22 22 22 31 i _ 8 64 Try.underlying22 hi hz hsize hby rfl (by decide) v l.length (flat8 l) hrow9 (.slice (some ⟨A.heap.size, 0, none⟩) 1 1) 1 (by decide) (slC y) (by
    rw [hsize]
    refine Src.ofSlice _ Try.underlying22 ⟨A.heap.size, 0, none⟩ 1 1 _ rfl (fun j u hj => ?_) (by simp [slC, Value.oneCell'])
    have ha : (⟨A.heap.size, 0, none⟩ : Addr).add j = ⟨A.heap.size, j, none⟩ := by unfold Addr.add; split <;> simp_all
    rw [ha]
    exact NS.cell j u (by simpa [slC] using hj)) (by omega) (by unfold maxLen; omega) (by have := q9.size; omega)
  refine ⟨v', w', hr, ?_, ?_⟩
  · unfold RowT
    rw [flat8_snoc, List.length_append]
    exact hown
  · exact (q9.mono hb).trans ⟨hgr.os, hgr.tape, hgr.output, hgr.size, fun k hk => hgr.block k (by have := q9.size; omega) (fun e => by have := (hrow9.block e.symm).1; omega)⟩
theorem wpList_append_run {P : Program} {w w' : World} {ops : Array Oper} {rest : List Oper} {o : Oper} {a : Act} {Q : Exit → Act → World → Prop}
    (hg : o.guard = none) (s x : Operand) (t : TypeId) (hop : o.op = Op.call { callee := Callee.builtin Builtin.append, args := #[s, x], argTypes := #[t, t] })
    (v x0 v' : Value) (hs : a.eval s = v) (hx : a.eval x = x0) (hr : (Builtin.append_ #[t, t] o.type #[v, x0]).run P w = .ok v' w')
    (hK : wpList P ops Q rest (a.put o.dst v') w') : wpList P ops Q (o :: rest) a w := by
  refine wpList_plain hg fun K hK' => ?_
  unfold Oper.wp execOp
  simp only [hop, resolve, invoke, builtin, Sem.run_bind, Sem.run_pure, Result.andThen_ok, List.map_toArray, List.map_cons, List.map_nil, hs, hx, hr]
  exact hK' _ _ hK
end Go.Proofs.Ytcannohmbaaceaa

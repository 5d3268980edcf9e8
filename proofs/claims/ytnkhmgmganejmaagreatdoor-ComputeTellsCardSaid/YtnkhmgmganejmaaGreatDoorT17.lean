/- Part. -/
import Derived.Test.YtnkhmgmganejmaaGreatDoorT09
import Derived.Test.YtnkhmgmganejmaaGreatDoorT14
import Derived.Test.YtnkhmgmganejmaaGreatDoorT16
import Derived.Laws.EntriesVeiled
import Derived.Test.YtnkhmgmganejmaaGreatDoorT05
set_option maxRecDepth 100000
set_option maxHeartbeats 16000000
namespace Go.Proofs.YtnkhmgmganejmaaGreatDoor
section
open Go Go.RowKit
def isOp (op : Nat) : Bool := decide ((1 ≤ op ∧ op ≤ 11) ∨ (16 ≤ op ∧ op ≤ 29) ∨ op = 80 ∨ (128 ≤ op ∧ op ≤ 159))
def truN (b : Bool) : Nat := if b = true then 1 else 0
theorem truN_lt (b : Bool) : W256 (truN b) := by unfold truN W256; split <;> omega
def oneN (op a : Nat) : Nat := if op = 21 then truN (decide (a = 0)) else a ^^^ M1
def twoN (op a b : Nat) : Nat :=
 if op = 1 then wmod (a + b) else if op = 2 then wmod (a * b) else if op = 3 then wsub a b else if op = 4 then a / b
 else if op = 5 then sgN (szN a / szN b) (negN a != negN b) else if op = 6 then (if b = 0 then 0 else a % b)
 else if op = 7 then sgN (if szN b = 0 then 0 else szN a % szN b) (negN a) else if op = 10 then wmod (a ^ b) else if op = 11 then signN a b
 else if op = 16 then truN (decide (a < b)) else if op = 17 then truN (decide (b < a)) else if op = 18 then truN (lessN a b) else if op = 19 then truN (lessN b a)
 else if op = 20 then truN (decide (a = b)) else if op = 22 then a &&& b else if op = 23 then a ||| b else if op = 24 then a ^^^ b
 else if op = 26 then byteV a b else if op = 27 then wmod (b * 2 ^ a) else if op = 28 then b / 2 ^ a else sarN a b
def threeN (op a b c : Nat) : Nat := if op = 8 then (if c = 0 then 0 else (a + b) % c) else (if c = 0 then 0 else a * b % c)
def takesN (op : Nat) : Nat := if op = 21 ∨ op = 25 ∨ op = 80 then 1 else if op = 8 ∨ op = 9 then 3 else 2
def madeL (op : Nat) (t : List Nat) : List Nat :=
 if op = 80 then [] else if takesN op = 1 then [oneN op (t.getD 0 0)] else if takesN op = 3 then [threeN op (t.getD 0 0) (t.getD 1 0) (t.getD 2 0)] else [twoN op (t.getD 0 0) (t.getD 1 0)]
def doE (op : Nat) (s : List Nat) : Int :=
 if isOp op = false then 42 else if 144 ≤ op then askN s.length ((op : Int) - 144 + 1) 1 1 else if 128 ≤ op then dupE s ((op : Int) - 128 + 1) else askN s.length (takesN op) 0 0
def doL (op : Nat) (s : List Nat) : List Nat :=
 if isOp op = false then s else if 144 ≤ op then swpL s ((op : Int) - 144 + 1) else if 128 ≤ op then dupL s ((op : Int) - 128 + 1)
 else if askN s.length (takesN op) 0 0 = 0 then popL s (takesN op) ++ madeL op (popT s (takesN op)) else s
end
section
open Go Go.RowKit Go.Maps Go.WideMaps Go.ChangeMaps
def MapF (w : World) (B n : Nat) (f : Nat → Option Value) : Prop :=
 ∃ D, w.ownsMap Tryz.prog tB RV B n D ∧ ∀ op, op < 256 → TellsAt D (keyB op) (f op)
theorem MapF.made (w : World) : MapF (w.alloc (.map #[] 0)) w.heap.size 0 (fun _ => none) := ⟨_, World.ownsMap_made _ _ _ _, fun _ _ => rfl⟩
theorem MapF.lt {w : World} {B n : Nat} {f : Nat → Option Value} (h : MapF w B n f) : B < w.heap.size := by obtain ⟨D, h1, _⟩ := h; exact h1.lt
theorem MapF.later {w w' : World} {B n : Nat} {f : Nat → Option Value} (h : MapF w B n f) (hx : Below w.heap.size w w') : MapF w' B n f := by
 have hb := h.lt
 obtain ⟨D, ⟨es, clock, h1, h3⟩, h2⟩ := h
 exact ⟨D, ⟨es, clock, (hx.block B hb).trans h1, h3⟩, h2⟩
def putF (f : Nat → Option Value) (op : Nat) (x : Value) : Nat → Option Value := fun o => if o = op then some x else f o
theorem MapF.put {w' : World} {B n op : Nat} {x : Value} {f : Nat → Option Value} {D : DataW Value} (h2 : ∀ o, o < 256 → TellsAt D (keyB o) (f o)) (hD : IsMap D)
  (h : w'.ownsMap Tryz.prog tB RV B n (D.put (keyB op) (.held x))) : MapF w' B n (putF f op x) :=
 ⟨_, h, fun o ho => by
  by_cases he : o = op
  ·subst he
   simp only [putF, if_true]
   exact TellsAt.put_same hD (by simp [keyB, WideAt.IsKeyLit]) _
  ·simp only [putF, if_neg he]
   exact (h2 o ho).put_other (fun e => he (keyB_inj e)) _⟩
section CoAs
variable (w : World) {ops : Array Oper} {rest : List Oper} {o : Oper} {a : Act} {Q : Exit → Act → World → Prop}
theorem wpList_putF (hg : o.guard = none) (tM tE : TypeId) (ht : Tryz.prog.underlying tM = some (.map tB tE)) (m k v : Operand) (hop : o.op = Op.insert tM m k v) (B n : Nat) (f : Nat → Option Value) (hm : a.eval m = .map (some B)) (hown : MapF w B n f) (hn : n < 1000)
  (op : Nat) (x : Value) (hk : a.eval k = .int .u8 (op : Int)) (hop' : op < 256) (hv : a.eval v = x)
  (hK : ∀ w', MapF w' B (n + 1) (putF f op x) → w.grownBy w' (some B) → wpList Tryz.prog ops Q rest (a.put o.dst undef) w') : wpList Tryz.prog ops Q (o :: rest) a w := by
 refine wpList_plain hg fun K' hK' => ?_
 obtain ⟨D, h1, h2⟩ := hown
 obtain ⟨w', hrun, r1, r2⟩ := h1.update lawB ht (val := x) (d := .held x) (ps := []) (Nat.lt_of_lt_of_le hn (by decide)) (keyB_of hop') rfl
 unfold Oper.wp
 simp [execOp, hop, hm, hk, hv, hrun, Result.andThen]
 exact hK' _ _ (hK w' (MapF.put h2 h1.isMap r1) r2)
def lookF (f : Nat → Option Value) (op : Nat) : Value := .tuple #[(f op).getD .nilFunc, .bool (f op).isSome]
theorem wpList_lookF (hg : o.guard = none) (tM tE : TypeId) (ht : Tryz.prog.underlying tM = some (.map tB tE)) (hz : ∀ w, (zeroValue tE).run Tryz.prog w = .ok .nilFunc w) (m k : Operand) (hop : o.op = Op.lookup tM m k true) (B n : Nat) (f : Nat → Option Value) (hm : a.eval m = .map (some B)) (hown : MapF w B n f)
  (op : Nat) (hk : a.eval k = .int .u8 (op : Int)) (hop' : op < 256) (hK : wpList Tryz.prog ops Q rest (a.put o.dst (lookF f op)) w) : wpList Tryz.prog ops Q (o :: rest) a w := by
 refine wpList_plain hg fun K' hK' => ?_
 obtain ⟨D, h1, h2⟩ := hown
 obtain ⟨v, ps, hrun, hv⟩ := h1.look_ok lawB ht (hz w) (zd := .held .nilFunc) (zp := []) rfl (keyB_of hop')
 have e : Value.tuple #[v, .bool (has D (keyB op))] = lookF f op := by
  have ht := h2 op hop'
  unfold lookF
  cases hf : f op with
  | none =>
   rw [hf] at ht
   have hz : D.atKey (keyB op) (.held .nilFunc) = .held .nilFunc := atKey_of_not_has ht _
   rw [hz] at hv
   simp only [RV, Option.some.injEq, Prod.mk.injEq, DataW.held.injEq] at hv
   rw [hv.1]
   simp only [TellsAt] at ht
   rw [ht]
   rfl
  | some x =>
   rw [hf] at ht
   rw [ht.2] at hv
   simp only [RV, Option.some.injEq, Prod.mk.injEq, DataW.held.injEq] at hv
   rw [hv.1, ht.1]
   rfl
 unfold Oper.wp
 simp [execOp, hop, hm, hk, hrun, Result.andThen]
 rw [e]
 exact hK' _ _ hK
end CoAs
def Keep (W X : World) : Prop := W.heap.size ≤ X.heap.size ∧ ∀ p u, W.cell? p = some u → X.cell? p = some u
theorem Keep.refl (W : World) : Keep W W := ⟨Nat.le_refl _, fun _ _ h => h⟩
theorem Keep.trans {W X Y : World} (h : Keep W X) (k : Keep X Y) : Keep W Y := ⟨Nat.le_trans h.1 k.1, fun p u e => k.2 p u (h.2 p u e)⟩
theorem Keep.of {W X : World} (h : Below W.heap.size W X) : Keep W X := ⟨h.size, cell_below h⟩
theorem Keep.put {w w' : World} {B n : Nat} {f : Nat → Option Value} (h : MapF w B n f) (hg : w.grownBy w' (some B)) : Keep w w' := by
 obtain ⟨D, ⟨es, clock, h1, _⟩, _⟩ := h
 refine ⟨hg.size, fun p u hp => ?_⟩
 have hne : p.block ≠ B := fun e => by
  subst e
  unfold World.cell? at hp
  rw [h1] at hp
  cases hp
 have hlt : p.block < w.heap.size := by
  rcases Nat.lt_or_ge p.block w.heap.size with h | h
  ·exact h
  ·unfold World.cell? at hp
   rw [Array.getElem?_eq_none h] at hp
   cases hp
 exact (World.cell?_of_block (hg.block _ hlt (fun e => hne (Option.some.inj e)))).trans hp
def FnOk (W : World) (v : Value) (n : Nat) (φ : List Nat → Nat) : Prop :=
 ∃ g cap, v = .func (.func g) #[] cap ∧ Go.Proofs.Enters Tryz.prog g ∧ ∀ X, Keep W X → Tab X → ∀ l : List Nat, l.length = n → (∀ x ∈ l, W256 x) →
  W256 (φ l) ∧ Calls Tryz.prog g ((l.map wv).toArray ++ cap) X fun e w' => e = .returned (wv (φ l)) ∧ Below X.heap.size X w'
theorem FnOk.later {W X : World} {v : Value} {n : Nat} {φ : List Nat → Nat} (h : FnOk W v n φ) (hb : Keep W X) : FnOk X v n φ := by
 obtain ⟨g, cap, rfl, hE, hc⟩ := h
 exact ⟨g, cap, rfl, hE, fun Y hY hT l hl hw => hc Y (hb.trans hY) hT l hl hw⟩
theorem FnOk.of_one {g : Nat} {φ : List Nat → Nat} (hE : Go.Proofs.Enters Tryz.prog g) (h : ∀ a, W256 a → W256 (φ [a]) ∧ RetT Tryz.prog g #[wv a] (wv (φ [a]))) (W : World) : FnOk W (.func (.func g) #[] #[]) 1 φ := by
 refine ⟨g, #[], rfl, hE, fun X _ hT l hl hw => ?_⟩
 match l, hl with
 | [a], _ =>
  obtain ⟨h1, h2⟩ := h a (hw a (by simp))
  exact ⟨h1, h2 X hT⟩
theorem FnOk.of_two {g : Nat} {φ : List Nat → Nat} (hE : Go.Proofs.Enters Tryz.prog g) (h : ∀ a b, W256 a → W256 b → W256 (φ [a, b]) ∧ RetT Tryz.prog g #[wv a, wv b] (wv (φ [a, b]))) (W : World) : FnOk W (.func (.func g) #[] #[]) 2 φ := by
 refine ⟨g, #[], rfl, hE, fun X _ hT l hl hw => ?_⟩
 match l, hl with
 | [a, b], _ =>
  obtain ⟨h1, h2⟩ := h a b (hw a (by simp)) (hw b (by simp))
  exact ⟨h1, h2 X hT⟩
theorem FnOk.of_three {g : Nat} {φ : List Nat → Nat} (hE : Go.Proofs.Enters Tryz.prog g) (h : ∀ a b c, W256 a → W256 b → W256 c → W256 (φ [a, b, c]) ∧ RetT Tryz.prog g #[wv a, wv b, wv c] (wv (φ [a, b, c]))) (W : World) : FnOk W (.func (.func g) #[] #[]) 3 φ := by
 refine ⟨g, #[], rfl, hE, fun X _ hT l hl hw => ?_⟩
 match l, hl with
 | [a, b, c], _ =>
  obtain ⟨h1, h2⟩ := h a b c (hw a (by simp)) (hw b (by simp)) (hw c (by simp))
  exact ⟨h1, h2 X hT⟩
end
section
open Go Go.RowKit
attribute [local go_sem] Oper.semAt_some Grows wide_fn eq4
theorem truth_t (z : Nat → Int) (h : Ret Tryz.prog 134 #[.int .i64 1] (.agg #[.int .u64 (z 0), .int .u64 (z 1), .int .u64 (z 2), .int .u64 (z 3)])) :
  Ret Tryz.prog 105 #[.bool true] (.agg #[.int .u64 (z 0), .int .u64 (z 1), .int .u64 (z 2), .int .u64 (z 3)]) := by
 intro w
 have Hh := hid h
 clear h
 go_enter Tryz.func105, Tryz.ntmps105
 have LR := Has.new w 24 z4
 obtain ⟨k1, k2, k3, k4⟩ := c4 LR
 have Q := (Below.refl w.heap.size w)
 have Q := Q.alloc Q.size (.cells z4 24)
 go_wp2_with fail
 clear k1 k2 k3 k4
 obtain ⟨W1, hW1⟩ : ∃ W1, (w.alloc (.cells z4 24)) = W1 := ⟨_, rfl⟩
 rw [hW1] at LR Q ⊢
 clear hW1
 refine (Hh.out _).mono ?_
 rintro e v5 ⟨rfl, q⟩
 have LR := LR.later q
 have Q := Q.trans (q.mono Q.size)
 clear q
 obtain ⟨r0, r1, r2, r3⟩ := c4 LR
 obtain ⟨z0, z1, z2, z3⟩ := f4 LR
 have HR := hid ((s4 LR z))
 have HQ := hid ((q4 (w.heap.size) Q (by omega) z))
 clear Q LR
 go_wp2
 refine bodyPost_ret (results_word (m := z) rfl rfl HR.out) rfl ⟨rfl, HQ.out⟩
theorem truth_f (z : Nat → Int) (h : Ret Tryz.prog 134 #[.int .i64 0] (.agg #[.int .u64 (z 0), .int .u64 (z 1), .int .u64 (z 2), .int .u64 (z 3)])) :
  Ret Tryz.prog 105 #[.bool false] (.agg #[.int .u64 (z 0), .int .u64 (z 1), .int .u64 (z 2), .int .u64 (z 3)]) := by
 intro w
 have Hh := hid h
 clear h
 go_enter Tryz.func105, Tryz.ntmps105
 have LR := Has.new w 24 z4
 obtain ⟨k1, k2, k3, k4⟩ := c4 LR
 have Q := (Below.refl w.heap.size w)
 have Q := Q.alloc Q.size (.cells z4 24)
 go_wp2_with fail
 clear k1 k2 k3 k4
 obtain ⟨W1, hW1⟩ : ∃ W1, (w.alloc (.cells z4 24)) = W1 := ⟨_, rfl⟩
 rw [hW1] at LR Q ⊢
 clear hW1
 refine (Hh.out _).mono ?_
 rintro e v5 ⟨rfl, q⟩
 have LR := LR.later q
 have Q := Q.trans (q.mono Q.size)
 clear q
 obtain ⟨r0, r1, r2, r3⟩ := c4 LR
 obtain ⟨z0, z1, z2, z3⟩ := f4 LR
 have HR := hid ((s4 LR z))
 have HQ := hid ((q4 (w.heap.size) Q (by omega) z))
 clear Q LR
 go_wp2
 refine bodyPost_ret (results_word (m := z) rfl rfl HR.out) rfl ⟨rfl, HQ.out⟩
theorem truth_ret (b : Bool) : Ret Tryz.prog 105 #[.bool b] (wv (truN b)) := by
 cases b
 ·exact truth_f (lim 0) (of_ret 0 (by unfold I64; omega))
 ·exact truth_t (lim 1) (of_ret 1 (by unfold I64; omega))
theorem less_w (za zb : Nat → Int) (c : Int) (h : Ret Tryz.prog 148 #[.agg #[.int .u64 (za 0), .int .u64 (za 1), .int .u64 (za 2), .int .u64 (za 3)], .agg #[.int .u64 (zb 0), .int .u64 (zb 1), .int .u64 (zb 2), .int .u64 (zb 3)]] (.int .i64 c)) :
  Ret Tryz.prog 119 #[.agg #[.int .u64 (za 0), .int .u64 (za 1), .int .u64 (za 2), .int .u64 (za 3)], .agg #[.int .u64 (zb 0), .int .u64 (zb 1), .int .u64 (zb 2), .int .u64 (zb 3)]] (.bool (decide (c < 0))) := by
 intro w
 have Hh := hid h
 clear h
 go_enter Tryz.func119, Tryz.ntmps119
 obtain ⟨⟨⟨k5, k6, k7, k8⟩, ⟨k9, k10, k11, k12⟩⟩, W1, hW1, LA, LB, Q⟩ := pww w 24 za zb
 go_wp2_with fail
 clear k5 k6 k7 k8 k9 k10 k11 k12
 rw [hW1.out]
 clear hW1
 refine (Hh.out _).mono ?_
 rintro e v13 ⟨rfl, q⟩
 have LA := LA.later q
 have LB := LB.later q
 have Q := Q.trans (q.mono Q.size)
 clear q
 obtain ⟨k14, k15, k16, k17⟩ := c4 LA
 obtain ⟨k18, k19, k20, k21⟩ := c4 LB
 go_wp2
 clear k14 k15 k16 k17 k18 k19 k20 k21
 go_ret
 exact ⟨rfl, Q⟩
theorem same_w (za zb : Nat → Int)  :
  Ret Tryz.prog 106 #[.agg #[.int .u64 (za 0), .int .u64 (za 1), .int .u64 (za 2), .int .u64 (za 3)], .agg #[.int .u64 (zb 0), .int .u64 (zb 1), .int .u64 (zb 2), .int .u64 (zb 3)]] (.bool (za 0 == zb 0 && za 1 == zb 1 && za 2 == zb 2 && za 3 == zb 3)) := by
 intro w
 go_enter Tryz.func106, Tryz.ntmps106
 have LA := Has.new w 24 (w4 za)
 obtain ⟨k1, k2, k3, k4⟩ := c4 LA
 have LA := LA.alloc (.cells (w4 zb) 24)
 have LB := Has.new (w.alloc (.cells (w4 za) 24)) 24 (w4 zb)
 simp only [World.size_alloc] at LB
 obtain ⟨k5, k6, k7, k8⟩ := c4 LA
 obtain ⟨k9, k10, k11, k12⟩ := c4 LB
 have Q := (Below.refl w.heap.size w)
 have Q := Q.alloc Q.size (.cells (w4 za) 24)
 have Q := Q.alloc Q.size (.cells (w4 zb) 24)
 go_wp2
 clear k1 k2 k3 k4 k5 k6 k7 k8 k9 k10 k11 k12
 obtain ⟨W1, hW1⟩ : ∃ W1, ((w.alloc (.cells (w4 za) 24)).alloc (.cells (w4 zb) 24)) = W1 := ⟨_, rfl⟩
 rw [hW1] at LA LB Q ⊢
 clear hW1
 go_ret
 exact ⟨rfl, Q⟩
theorem wcmp_negC (x y : Nat) : decide (wcmp x y < 0) = decide (x < y) := by
 unfold wcmp
 by_cases h : x < y
 ·simp [h]
 ·by_cases h2 : y < x
  ·simp [h, h2]
  ·simp [h, h2]
theorem less_retC (a b : Nat) (ha : W256 a) (hb : W256 b) : Ret Tryz.prog 119 #[wv a, wv b] (.bool (decide (a < b))) :=
 (less_w (lim a) (lim b) _ (cmp_ret a b ha hb)).of_eq rfl (by rw [wcmp_negC])
theorem same_retC (a b : Nat) (ha : W256 a) (hb : W256 b) : Ret Tryz.prog 106 #[wv a, wv b] (.bool (decide (a = b))) :=
 (same_w (lim a) (lim b)).of_eq rfl (by rw [lim_same a b ha hb])
def QOk (W : World) (v : Value) (ψ : Nat → Nat → Bool) : Prop :=
 ∃ g cap, v = .func (.func g) #[] cap ∧ Go.Proofs.Enters Tryz.prog g ∧ ∀ X, Keep W X → ∀ a b, W256 a → W256 b →
  Calls Tryz.prog g (#[wv a, wv b] ++ cap) X fun e w' => e = .returned (.bool (ψ a b)) ∧ Below X.heap.size X w'
theorem QOk.of {g : Nat} {ψ : Nat → Nat → Bool} (hE : Go.Proofs.Enters Tryz.prog g) (h : ∀ a b, W256 a → W256 b → Ret Tryz.prog g #[wv a, wv b] (.bool (ψ a b))) (W : World) : QOk W (.func (.func g) #[] #[]) ψ :=
 ⟨g, #[], rfl, hE, fun X _ a b ha hb => h a b ha hb X⟩
theorem asked1_any (w : World) (bq g : Nat) (cap : Array Value) (hE : Go.Proofs.Enters Tryz.prog g) (a b : Nat) (ψ : Bool) (hq : w.cell? ⟨bq, 0, none⟩ = some (.func (.func g) #[] cap)) (hbq : bq < w.heap.size)
  (hc : ∀ Y, Below w.heap.size w Y → Calls Tryz.prog g (#[wv a, wv b] ++ cap) Y fun e w' => e = .returned (.bool ψ) ∧ Below Y.heap.size Y w') :
  Calls Tryz.prog 147 #[wv a, wv b, .pointer (some ⟨bq, 0, none⟩)] w fun e w' => e = .returned (wv (truN ψ)) ∧ Below w.heap.size w w' := by
 have HC := hid hc
 unfold Go.Proofs.Enters at hE
 have HT := hid (truth_ret ψ)
 obtain ⟨z, hz⟩ : ∃ z, lim (truN ψ) = z := ⟨_, rfl⟩
 obtain ⟨za, hza⟩ : ∃ za, lim a = za := ⟨_, rfl⟩
 obtain ⟨zb, hzb⟩ : ∃ zb, lim b = zb := ⟨_, rfl⟩
 unfold wv at HC HT ⊢
 rw [hz] at HT ⊢
 rw [hza] at HC ⊢
 rw [hzb] at HC ⊢
 have HB := hid hbq
 have HQ0 := hid hq
 clear hc hz hza hzb hbq hq
 go_enter Tryz.func147, Tryz.ntmps147
 have Qq := Below.refl w.heap.size w
 have Qq := Qq.alloc Qq.size (.cells (w4 za) 24)
 have Qq := Qq.alloc Qq.size (.cells (w4 zb) 24)
 have Qq := Qq.alloc Qq.size (.cells z4 24)
 have kq : (((w.alloc (.cells (w4 za) 24)).alloc (.cells (w4 zb) 24)).alloc (.cells z4 24)).cell? ⟨bq, 0, none⟩ = some (.func (.func g) #[] cap) := (Qq.cell (p := ⟨bq, 0, none⟩) HB.out).trans HQ0.out
 clear Qq
 obtain ⟨⟨⟨k13, k14, k15, k16⟩, ⟨k17, k18, k19, k20⟩, ⟨k21, k22, k23, k24⟩⟩, W1, hW1, LA, LB, LR, Q⟩ := pwwz w 24 za zb
 go_wp2_with fail
 clear k13 k14 k15 k16 k17 k18 k19 k20 k21 k22 k23 k24
 rw [hW1.out]
 clear hW1
 clear kq
 refine (HC.out _ Q).mono ?_
 rintro e v1 ⟨rfl, q⟩
 have LA := LA.later q
 have LB := LB.later q
 have LR := LR.later q
 have Q := Q.trans (q.mono Q.size)
 clear q hE HC HQ0
 go_wp2_with fail
 refine (HT.out _).mono ?_
 rintro e v2 ⟨rfl, q⟩
 have LA := LA.later q
 have LB := LB.later q
 have LR := LR.later q
 have Q := Q.trans (q.mono Q.size)
 clear q
 obtain ⟨r0, r1, r2, r3⟩ := c4 LR
 obtain ⟨z0, z1, z2, z3⟩ := f4 LR
 obtain ⟨k25, k26, k27, k28⟩ := c4 LA
 obtain ⟨k29, k30, k31, k32⟩ := c4 LB
 have HR := hid ((s4 LR z))
 have HQ := hid ((q4 (w.heap.size + 1 + 1) Q (by omega) z))
 clear Q LA LB LR
 go_wp2
 refine bodyPost_ret (results_word (m := z) rfl rfl HR.out) rfl ⟨rfl, HQ.out⟩
theorem turned1_any (w : World) (bq g : Nat) (cap : Array Value) (hE : Go.Proofs.Enters Tryz.prog g) (a b : Nat) (ψ : Bool) (hq : w.cell? ⟨bq, 0, none⟩ = some (.func (.func g) #[] cap)) (hbq : bq < w.heap.size)
  (hc : ∀ Y, Below w.heap.size w Y → Calls Tryz.prog g (#[wv b, wv a] ++ cap) Y fun e w' => e = .returned (.bool ψ) ∧ Below Y.heap.size Y w') :
  Calls Tryz.prog 149 #[wv a, wv b, .pointer (some ⟨bq, 0, none⟩)] w fun e w' => e = .returned (.bool ψ) ∧ Below w.heap.size w w' := by
 have HC := hid hc
 unfold Go.Proofs.Enters at hE
 have HT := hid (truth_ret ψ)
 obtain ⟨z, hz⟩ : ∃ z, lim (truN ψ) = z := ⟨_, rfl⟩
 obtain ⟨za, hza⟩ : ∃ za, lim a = za := ⟨_, rfl⟩
 obtain ⟨zb, hzb⟩ : ∃ zb, lim b = zb := ⟨_, rfl⟩
 unfold wv at HC HT ⊢
 rw [hz] at HT
 rw [hza] at HC ⊢
 rw [hzb] at HC ⊢
 have HB := hid hbq
 have HQ0 := hid hq
 clear hc hz hza hzb hbq hq
 go_enter Tryz.func149, Tryz.ntmps149
 have Qq := Below.refl w.heap.size w
 have Qq := Qq.alloc Qq.size (.cells (w4 za) 24)
 have Qq := Qq.alloc Qq.size (.cells (w4 zb) 24)
 have kq : ((w.alloc (.cells (w4 za) 24)).alloc (.cells (w4 zb) 24)).cell? ⟨bq, 0, none⟩ = some (.func (.func g) #[] cap) := (Qq.cell (p := ⟨bq, 0, none⟩) HB.out).trans HQ0.out
 clear Qq
 obtain ⟨⟨⟨k5, k6, k7, k8⟩, ⟨k9, k10, k11, k12⟩⟩, W1, hW1, LA, LB, Q⟩ := pww w 24 za zb
 go_wp2_with fail
 clear k5 k6 k7 k8 k9 k10 k11 k12
 rw [hW1.out]
 clear hW1
 clear kq
 refine (HC.out _ Q).mono ?_
 rintro e v1 ⟨rfl, q⟩
 have LA := LA.later q
 have LB := LB.later q
 have Q := Q.trans (q.mono Q.size)
 clear q hE HC HQ0
 obtain ⟨k13, k14, k15, k16⟩ := c4 LA
 obtain ⟨k17, k18, k19, k20⟩ := c4 LB
 go_wp2
 clear k13 k14 k15 k16 k17 k18 k19 k20
 go_ret
 exact ⟨rfl, Q⟩
theorem asked_any (W : World) (q : Value) (ψ : Nat → Nat → Bool) (hq : QOk W q ψ) :
  Calls Tryz.prog 118 #[q] W fun e w' => ∃ v, e = .returned v ∧ FnOk w' v 2 (fun l => truN (ψ (l.getD 0 0) (l.getD 1 0))) ∧ Below W.heap.size W w' := by
 obtain ⟨g, cap, rfl, hE, hc⟩ := hq
 have HC := hid hc
 have HE := hid hE
 have hqb := newA W (.cells #[.func (.func g) #[] cap] 114)
 have B := Has.new W 114 #[.func (.func g) #[] cap]
 have HQB := hid hqb
 have HB := hid B
 clear hc hE hqb B
 go_enter Tryz.func118, Tryz.ntmps118
 go_wp2_with fail
 go_ret
 refine ⟨_, rfl, ⟨_, _, rfl, enters_of Tryz.func147 (by kernel_rfl) rfl, fun X hX hT l hl hw => ?_⟩, HQB.out⟩
 match l, hl with
 | [a, b], _ =>
  refine ⟨truN_lt _, ?_⟩
  exact asked1_any X _ g cap HE.out a b _ (hX.2 _ _ (HB.out.cell 0 _ rfl)) (Nat.lt_of_lt_of_le HB.out.lt hX.1) (fun Y hY => HC.out Y ((Keep.of HQB.out).trans (hX.trans (Keep.of hY))) a b (hw a (by simp)) (hw b (by simp)))
theorem turned_any (W : World) (q : Value) (ψ : Nat → Nat → Bool) (hq : QOk W q ψ) :
  Calls Tryz.prog 120 #[q] W fun e w' => ∃ v, e = .returned v ∧ QOk w' v (fun a b => ψ b a) ∧ Below W.heap.size W w' := by
 obtain ⟨g, cap, rfl, hE, hc⟩ := hq
 have HC := hid hc
 have HE := hid hE
 have hqb := newA W (.cells #[.func (.func g) #[] cap] 114)
 have B := Has.new W 114 #[.func (.func g) #[] cap]
 have HQB := hid hqb
 have HB := hid B
 clear hc hE hqb B
 go_enter Tryz.func120, Tryz.ntmps120
 go_wp2_with fail
 go_ret
 refine ⟨_, rfl, ⟨_, _, rfl, enters_of Tryz.func149 (by kernel_rfl) rfl, fun X hX a b ha hb => ?_⟩, HQB.out⟩
 exact turned1_any X _ g cap HE.out a b _ (hX.2 _ _ (HB.out.cell 0 _ rfl)) (Nat.lt_of_lt_of_le HB.out.lt hX.1) (fun Y hY => HC.out Y ((Keep.of HQB.out).trans (hX.trans (Keep.of hY))) b a hb ha)
theorem zero_w (za z : Nat → Int) (b : Bool) (h1 : Ret Tryz.prog 106 #[.agg #[.int .u64 (za 0), .int .u64 (za 1), .int .u64 (za 2), .int .u64 (za 3)], .agg #[.int .u64 0, .int .u64 0, .int .u64 0, .int .u64 0]] (.bool b)) (h2 : Ret Tryz.prog 105 #[.bool b] (.agg #[.int .u64 (z 0), .int .u64 (z 1), .int .u64 (z 2), .int .u64 (z 3)])) :
  Ret Tryz.prog 104 #[.agg #[.int .u64 (za 0), .int .u64 (za 1), .int .u64 (za 2), .int .u64 (za 3)]] (.agg #[.int .u64 (z 0), .int .u64 (z 1), .int .u64 (z 2), .int .u64 (z 3)]) := by
 intro w
 have Hh1 := hid h1
 have Hh2 := hid h2
 clear h1 h2
 go_enter Tryz.func104, Tryz.ntmps104
 obtain ⟨⟨⟨k5, k6, k7, k8⟩, ⟨k9, k10, k11, k12⟩⟩, W1, hW1, LA, LR, Q⟩ := pwz w 24 za
 go_wp2_with fail
 clear k5 k6 k7 k8 k9 k10 k11 k12
 rw [hW1.out]
 clear hW1
 refine (Hh1.out _).mono ?_
 rintro e v13 ⟨rfl, q⟩
 have LA := LA.later q
 have LR := LR.later q
 have Q := Q.trans (q.mono Q.size)
 clear q
 obtain ⟨k14, k15, k16, k17⟩ := c4 LA
 obtain ⟨k18, k19, k20, k21⟩ := c4 LR
 go_wp2_with fail
 clear k14 k15 k16 k17 k18 k19 k20 k21
 refine (Hh2.out _).mono ?_
 rintro e v22 ⟨rfl, q⟩
 have LA := LA.later q
 have LR := LR.later q
 have Q := Q.trans (q.mono Q.size)
 clear q
 obtain ⟨r0, r1, r2, r3⟩ := c4 LR
 obtain ⟨z0, z1, z2, z3⟩ := f4 LR
 obtain ⟨k23, k24, k25, k26⟩ := c4 LA
 have HR := hid ((s4 LR z))
 have HQ := hid ((q4 (w.heap.size + 1) Q (by omega) z))
 clear Q LA LR
 go_wp2
 refine bodyPost_ret (results_word (m := z) rfl rfl HR.out) rfl ⟨rfl, HQ.out⟩
theorem zero_retC (a : Nat) (ha : W256 a) : Ret Tryz.prog 104 #[wv a] (wv (truN (decide (a = 0)))) := by
 have h := same_retC a 0 ha (by unfold W256; omega)
 rw [wv_0] at h
 exact zero_w (lim a) _ _ h (truth_ret _)
end
section
open Go Go.RowKit Go.Maps
attribute [local go_sem] Oper.semAt_some Grows wide_fn
theorem w256_p (a : Nat) : W256 a ↔ a < 2 ^ 256 := w256_pow a
theorem wsub_ltC (a b : Nat) : W256 (wsub a b) := by unfold wsub; exact wmod_lt _
theorem szN_lt (a : Nat) (ha : W256 a) : W256 (szN a) := sgN_lt _ _ ha
theorem mod0_lt (a b : Nat) (ha : W256 a) : W256 (if b = 0 then 0 else a % b) := by
 split
 ·unfold W256; omega
 ·exact Nat.lt_of_le_of_lt (Nat.mod_le _ _) ha
theorem modn_lt (a b : Nat) (hb : W256 b) : W256 (if b = 0 then 0 else a % b) := by
 split
 ·unfold W256; omega
 ·exact Nat.lt_trans (Nat.mod_lt _ (by omega)) hb
theorem and_ltC (a b : Nat) (ha : W256 a) : W256 (a &&& b) := Nat.lt_of_le_of_lt Nat.and_le_left ha
theorem or_ltC (a b : Nat) (ha : W256 a) (hb : W256 b) : W256 (a ||| b) := (w256_p _).2 (Nat.or_lt_two_pow ((w256_p _).1 ha) ((w256_p _).1 hb))
theorem xor_ltC (a b : Nat) (ha : W256 a) (hb : W256 b) : W256 (a ^^^ b) := (w256_p _).2 (Nat.xor_lt_two_pow ((w256_p _).1 ha) ((w256_p _).1 hb))
theorem byteV_w (a b : Nat) : W256 (byteV a b) := Nat.lt_trans (byteV_lt a b) (by decide)
def isTwo (op : Nat) : Bool := decide ((1 ≤ op ∧ op ≤ 7) ∨ op = 10 ∨ op = 11 ∨ (16 ≤ op ∧ op ≤ 20) ∨ (22 ≤ op ∧ op ≤ 24) ∨ (26 ≤ op ∧ op ≤ 29))
def isOne (op : Nat) : Bool := decide (op = 21 ∨ op = 25)
def isThree (op : Nat) : Bool := decide (op = 8 ∨ op = 9)
abbrev two' (op : Nat) : List Nat → Nat := fun l => twoN op (l.getD 0 0) (l.getD 1 0)
abbrev one' (op : Nat) : List Nat → Nat := fun l => oneN op (l.getD 0 0)
abbrev three' (op : Nat) : List Nat → Nat := fun l => threeN op (l.getD 0 0) (l.getD 1 0) (l.getD 2 0)
def NewF (W : World) (k : Nat) (is : Nat → Bool) (φ : Nat → List Nat → Nat) (e : Ending) (w' : World) : Prop :=
 ∃ B n f, e = .returned (.map (some B)) ∧ MapF w' B n f ∧ Below W.heap.size W w' ∧ ∀ op, op < 256 → (is op = false → f op = none) ∧ (is op = true → ∃ v, f op = some v ∧ FnOk w' v k (φ op))
theorem ofOne_any (W : World) : Calls Tryz.prog 65 #[] W (NewF W 1 isOne one') := by
 have hmm := @run_makeMap Tryz.prog
 have hu : Tryz.prog.underlying 78 = some (.map tB 76) := Tryz.underlying78
 have HU := hid hu
 clear hu
 obtain ⟨B, hB⟩ : ∃ B, W.heap.size = B := ⟨_, rfl⟩
 have m0 := hid (hB ▸ MapF.made W : MapF (W.alloc (.map #[] 0)) B 0 fun _ => none)
 have b0 := hid (hB ▸ (Below.refl _ W).alloc (Nat.le_refl _) _ : Below B W (W.alloc (.map #[] 0)))
 go_enter Tryz.func65, Tryz.ntmps65
 go_wp2_with (first | (refine wpList_putF _ rfl 78 76 HU.out _ _ _ rfl _ _ _ rfl m0.out (by decide) 21 (.func (.func 104) #[] #[]) rfl (by decide) rfl ?_; intro w1 h g; have k1 := hid (Keep.put m0.out g); have m1 := hid h; have b1 := hid (b0.out.grown g (by have := b0.out.size; omega) (fun k e => by cases e; exact Nat.le_refl _)); clear h g) | (refine wpList_putF _ rfl 78 76 HU.out _ _ _ rfl _ _ _ rfl m1.out (by decide) 25 (.func (.func 107) #[] #[]) rfl (by decide) rfl ?_; intro w2 h g; have k2 := hid (Keep.put m1.out g); have m2 := hid h; have b2 := hid (b1.out.grown g (by have := b1.out.size; omega) (fun k e => by cases e; exact Nat.le_refl _)); clear h g) | go_in)
 go_ret
 refine ⟨B, _, _, rfl, m2.out, hB ▸ b2.out, fun op ho => ?_⟩
 refine ⟨fun h => ?_, fun h => ?_⟩
 ·unfold isOne at h
  have h := of_decide_eq_false h
  unfold putF
  repeat rw [if_neg (by omega)]
 ·unfold isOne at h
  have h := of_decide_eq_true h
  obtain rfl | rfl : op = 21 ∨ op = 25 := by omega
  ·exact ⟨_, rfl, FnOk.of_one (enters_of Tryz.func104 (by kernel_rfl) rfl) (fun a ha => ⟨truN_lt _, (zero_retC a ha).toT⟩) _⟩
  ·exact ⟨_, rfl, FnOk.of_one (enters_of Tryz.func107 (by kernel_rfl) rfl) (fun a ha => ⟨xor_ltC a _ ha M1_lt, (not_ret a ha).toT⟩) _⟩
theorem ofThree_any (W : World) : Calls Tryz.prog 71 #[] W (NewF W 3 isThree three') := by
 have hmm := @run_makeMap Tryz.prog
 have hu : Tryz.prog.underlying 90 = some (.map tB 88) := Tryz.underlying90
 have HU := hid hu
 clear hu
 obtain ⟨B, hB⟩ : ∃ B, W.heap.size = B := ⟨_, rfl⟩
 have m0 := hid (hB ▸ MapF.made W : MapF (W.alloc (.map #[] 0)) B 0 fun _ => none)
 have b0 := hid (hB ▸ (Below.refl _ W).alloc (Nat.le_refl _) _ : Below B W (W.alloc (.map #[] 0)))
 go_enter Tryz.func71, Tryz.ntmps71
 go_wp2_with (first | (refine wpList_putF _ rfl 90 88 HU.out _ _ _ rfl _ _ _ rfl m0.out (by decide) 8 (.func (.func 130) #[] #[]) rfl (by decide) rfl ?_; intro w1 h g; have k1 := hid (Keep.put m0.out g); have m1 := hid h; have b1 := hid (b0.out.grown g (by have := b0.out.size; omega) (fun k e => by cases e; exact Nat.le_refl _)); clear h g) | (refine wpList_putF _ rfl 90 88 HU.out _ _ _ rfl _ _ _ rfl m1.out (by decide) 9 (.func (.func 131) #[] #[]) rfl (by decide) rfl ?_; intro w2 h g; have k2 := hid (Keep.put m1.out g); have m2 := hid h; have b2 := hid (b1.out.grown g (by have := b1.out.size; omega) (fun k e => by cases e; exact Nat.le_refl _)); clear h g) | go_in)
 go_ret
 refine ⟨B, _, _, rfl, m2.out, hB ▸ b2.out, fun op ho => ?_⟩
 refine ⟨fun h => ?_, fun h => ?_⟩
 ·unfold isThree at h
  have h := of_decide_eq_false h
  unfold putF
  repeat rw [if_neg (by omega)]
 ·unfold isThree at h
  have h := of_decide_eq_true h
  obtain rfl | rfl : op = 8 ∨ op = 9 := by omega
  ·exact ⟨_, rfl, FnOk.of_three (enters_of Tryz.func130 (by kernel_rfl) rfl) (fun a b c ha hb hc => ⟨modn_lt _ c hc, (addmod_ret a b c ha hb hc).toT⟩) _⟩
  ·exact ⟨_, rfl, FnOk.of_three (enters_of Tryz.func131 (by kernel_rfl) rfl) (fun a b c ha hb hc => ⟨modn_lt _ c hc, (mulmod_ret a b c ha hb hc).toT⟩) _⟩
theorem ofTwo_any (W : World) : Calls Tryz.prog 68 #[] W (NewF W 2 isTwo two') := by
 have hmm := @run_makeMap Tryz.prog
 have hu : Tryz.prog.underlying 84 = some (.map tB 82) := Tryz.underlying84
 have HU := hid hu
 clear hu
 have QL := hid (fun W => QOk.of (enters_of Tryz.func119 (by kernel_rfl) rfl) less_retC W)
 have QB := hid (fun W => QOk.of (enters_of Tryz.func121 (by kernel_rfl) rfl) less_ret W)
 have QS := hid (fun W => QOk.of (enters_of Tryz.func106 (by kernel_rfl) rfl) same_retC W)
 obtain ⟨B, hB⟩ : ∃ B, W.heap.size = B := ⟨_, rfl⟩
 have m0 := hid (hB ▸ MapF.made W : MapF (W.alloc (.map #[] 0)) B 0 fun _ => none)
 have b0 := hid (hB ▸ (Below.refl _ W).alloc (Nat.le_refl _) _ : Below B W (W.alloc (.map #[] 0)))
 go_enter Tryz.func68, Tryz.ntmps68
 go_wp2_with (first | (refine wpList_putF _ rfl 84 82 HU.out _ _ _ rfl _ _ _ rfl m0.out (by decide) 1 (.func (.func 109) #[] #[]) rfl (by decide) rfl ?_; intro w1 h g; have k1 := hid (Keep.put m0.out g); have m1 := hid h; have b1 := hid (b0.out.grown g (by have := b0.out.size; omega) (fun k e => by cases e; exact Nat.le_refl _)); clear h g) | (refine wpList_putF _ rfl 84 82 HU.out _ _ _ rfl _ _ _ rfl m1.out (by decide) 2 (.func (.func 110) #[] #[]) rfl (by decide) rfl ?_; intro w2 h g; have k2 := hid (Keep.put m1.out g); have m2 := hid h; have b2 := hid (b1.out.grown g (by have := b1.out.size; omega) (fun k e => by cases e; exact Nat.le_refl _)); clear h g) | (refine wpList_putF _ rfl 84 82 HU.out _ _ _ rfl _ _ _ rfl m2.out (by decide) 3 (.func (.func 111) #[] #[]) rfl (by decide) rfl ?_; intro w3 h g; have k3 := hid (Keep.put m2.out g); have m3 := hid h; have b3 := hid (b2.out.grown g (by have := b2.out.size; omega) (fun k e => by cases e; exact Nat.le_refl _)); clear h g) | (refine wpList_putF _ rfl 84 82 HU.out _ _ _ rfl _ _ _ rfl m3.out (by decide) 4 (.func (.func 112) #[] #[]) rfl (by decide) rfl ?_; intro w4 h g; have k4 := hid (Keep.put m3.out g); have m4 := hid h; have b4 := hid (b3.out.grown g (by have := b3.out.size; omega) (fun k e => by cases e; exact Nat.le_refl _)); clear h g) | (refine wpList_putF _ rfl 84 82 HU.out _ _ _ rfl _ _ _ rfl m4.out (by decide) 5 (.func (.func 113) #[] #[]) rfl (by decide) rfl ?_; intro w5 h g; have k5 := hid (Keep.put m4.out g); have m5 := hid h; have b5 := hid (b4.out.grown g (by have := b4.out.size; omega) (fun k e => by cases e; exact Nat.le_refl _)); clear h g) | (refine wpList_putF _ rfl 84 82 HU.out _ _ _ rfl _ _ _ rfl m5.out (by decide) 6 (.func (.func 114) #[] #[]) rfl (by decide) rfl ?_; intro w6 h g; have k6 := hid (Keep.put m5.out g); have m6 := hid h; have b6 := hid (b5.out.grown g (by have := b5.out.size; omega) (fun k e => by cases e; exact Nat.le_refl _)); clear h g) | (refine wpList_putF _ rfl 84 82 HU.out _ _ _ rfl _ _ _ rfl m6.out (by decide) 7 (.func (.func 115) #[] #[]) rfl (by decide) rfl ?_; intro w7 h g; have k7 := hid (Keep.put m6.out g); have m7 := hid h; have b7 := hid (b6.out.grown g (by have := b6.out.size; omega) (fun k e => by cases e; exact Nat.le_refl _)); clear h g) | (refine wpList_putF _ rfl 84 82 HU.out _ _ _ rfl _ _ _ rfl m7.out (by decide) 10 (.func (.func 116) #[] #[]) rfl (by decide) rfl ?_; intro w8 h g; have k8 := hid (Keep.put m7.out g); have m8 := hid h; have b8 := hid (b7.out.grown g (by have := b7.out.size; omega) (fun k e => by cases e; exact Nat.le_refl _)); clear h g) | (refine wpList_putF _ rfl 84 82 HU.out _ _ _ rfl _ _ _ rfl m8.out (by decide) 11 (.func (.func 117) #[] #[]) rfl (by decide) rfl ?_; intro w9 h g; have k9 := hid (Keep.put m8.out g); have m9 := hid h; have b9 := hid (b8.out.grown g (by have := b8.out.size; omega) (fun k e => by cases e; exact Nat.le_refl _)); clear h g) | (go_at_call 118; refine (asked_any _ _ _ (QL.out _)).mono ?_; rintro _ w10 ⟨v16, rfl, F16, hb⟩; have m10 := hid (m9.out.later hb); have b10 := hid (b9.out.trans (hb.mono (by have := b9.out.size; omega))); have k10 := hid (Keep.of hb); have F16 := hid F16; clear hb) | (refine wpList_putF _ rfl 84 82 HU.out _ _ _ rfl _ _ _ rfl m10.out (by decide) 16 v16 rfl (by decide) rfl ?_; intro w11 h g; have k11 := hid (Keep.put m10.out g); have m11 := hid h; have b11 := hid (b10.out.grown g (by have := b10.out.size; omega) (fun k e => by cases e; exact Nat.le_refl _)); clear h g) | (go_at_call 120; refine (turned_any _ _ _ (QL.out _)).mono ?_; rintro _ w12 ⟨t17, rfl, T17, hb⟩; have m12 := hid (m11.out.later hb); have b12 := hid (b11.out.trans (hb.mono (by have := b11.out.size; omega))); have k12 := hid (Keep.of hb); obtain ⟨gt17, ct17, et17, rt17⟩ := T17; have T17 := hid (⟨gt17, ct17, et17, rt17⟩ : QOk w12 t17 _); clear hb rt17; subst et17) | (go_at_call 118; refine (asked_any _ _ _ T17.out).mono ?_; rintro _ w13 ⟨v17, rfl, F17, hb⟩; have m13 := hid (m12.out.later hb); have b13 := hid (b12.out.trans (hb.mono (by have := b12.out.size; omega))); have k13 := hid (Keep.of hb); have F17 := hid F17; clear hb) | (refine wpList_putF _ rfl 84 82 HU.out _ _ _ rfl _ _ _ rfl m13.out (by decide) 17 v17 rfl (by decide) rfl ?_; intro w14 h g; have k14 := hid (Keep.put m13.out g); have m14 := hid h; have b14 := hid (b13.out.grown g (by have := b13.out.size; omega) (fun k e => by cases e; exact Nat.le_refl _)); clear h g) | (go_at_call 118; refine (asked_any _ _ _ (QB.out _)).mono ?_; rintro _ w15 ⟨v18, rfl, F18, hb⟩; have m15 := hid (m14.out.later hb); have b15 := hid (b14.out.trans (hb.mono (by have := b14.out.size; omega))); have k15 := hid (Keep.of hb); have F18 := hid F18; clear hb) | (refine wpList_putF _ rfl 84 82 HU.out _ _ _ rfl _ _ _ rfl m15.out (by decide) 18 v18 rfl (by decide) rfl ?_; intro w16 h g; have k16 := hid (Keep.put m15.out g); have m16 := hid h; have b16 := hid (b15.out.grown g (by have := b15.out.size; omega) (fun k e => by cases e; exact Nat.le_refl _)); clear h g) | (go_at_call 120; refine (turned_any _ _ _ (QB.out _)).mono ?_; rintro _ w17 ⟨t19, rfl, T19, hb⟩; have m17 := hid (m16.out.later hb); have b17 := hid (b16.out.trans (hb.mono (by have := b16.out.size; omega))); have k17 := hid (Keep.of hb); obtain ⟨gt19, ct19, et19, rt19⟩ := T19; have T19 := hid (⟨gt19, ct19, et19, rt19⟩ : QOk w17 t19 _); clear hb rt19; subst et19) | (go_at_call 118; refine (asked_any _ _ _ T19.out).mono ?_; rintro _ w18 ⟨v19, rfl, F19, hb⟩; have m18 := hid (m17.out.later hb); have b18 := hid (b17.out.trans (hb.mono (by have := b17.out.size; omega))); have k18 := hid (Keep.of hb); have F19 := hid F19; clear hb) | (refine wpList_putF _ rfl 84 82 HU.out _ _ _ rfl _ _ _ rfl m18.out (by decide) 19 v19 rfl (by decide) rfl ?_; intro w19 h g; have k19 := hid (Keep.put m18.out g); have m19 := hid h; have b19 := hid (b18.out.grown g (by have := b18.out.size; omega) (fun k e => by cases e; exact Nat.le_refl _)); clear h g) | (go_at_call 118; refine (asked_any _ _ _ (QS.out _)).mono ?_; rintro _ w20 ⟨v20, rfl, F20, hb⟩; have m20 := hid (m19.out.later hb); have b20 := hid (b19.out.trans (hb.mono (by have := b19.out.size; omega))); have k20 := hid (Keep.of hb); have F20 := hid F20; clear hb) | (refine wpList_putF _ rfl 84 82 HU.out _ _ _ rfl _ _ _ rfl m20.out (by decide) 20 v20 rfl (by decide) rfl ?_; intro w21 h g; have k21 := hid (Keep.put m20.out g); have m21 := hid h; have b21 := hid (b20.out.grown g (by have := b20.out.size; omega) (fun k e => by cases e; exact Nat.le_refl _)); clear h g) | (refine wpList_putF _ rfl 84 82 HU.out _ _ _ rfl _ _ _ rfl m21.out (by decide) 22 (.func (.func 122) #[] #[]) rfl (by decide) rfl ?_; intro w22 h g; have k22 := hid (Keep.put m21.out g); have m22 := hid h; have b22 := hid (b21.out.grown g (by have := b21.out.size; omega) (fun k e => by cases e; exact Nat.le_refl _)); clear h g) | (refine wpList_putF _ rfl 84 82 HU.out _ _ _ rfl _ _ _ rfl m22.out (by decide) 23 (.func (.func 123) #[] #[]) rfl (by decide) rfl ?_; intro w23 h g; have k23 := hid (Keep.put m22.out g); have m23 := hid h; have b23 := hid (b22.out.grown g (by have := b22.out.size; omega) (fun k e => by cases e; exact Nat.le_refl _)); clear h g) | (refine wpList_putF _ rfl 84 82 HU.out _ _ _ rfl _ _ _ rfl m23.out (by decide) 24 (.func (.func 124) #[] #[]) rfl (by decide) rfl ?_; intro w24 h g; have k24 := hid (Keep.put m23.out g); have m24 := hid h; have b24 := hid (b23.out.grown g (by have := b23.out.size; omega) (fun k e => by cases e; exact Nat.le_refl _)); clear h g) | (refine wpList_putF _ rfl 84 82 HU.out _ _ _ rfl _ _ _ rfl m24.out (by decide) 26 (.func (.func 125) #[] #[]) rfl (by decide) rfl ?_; intro w25 h g; have k25 := hid (Keep.put m24.out g); have m25 := hid h; have b25 := hid (b24.out.grown g (by have := b24.out.size; omega) (fun k e => by cases e; exact Nat.le_refl _)); clear h g) | (refine wpList_putF _ rfl 84 82 HU.out _ _ _ rfl _ _ _ rfl m25.out (by decide) 27 (.func (.func 126) #[] #[]) rfl (by decide) rfl ?_; intro w26 h g; have k26 := hid (Keep.put m25.out g); have m26 := hid h; have b26 := hid (b25.out.grown g (by have := b25.out.size; omega) (fun k e => by cases e; exact Nat.le_refl _)); clear h g) | (refine wpList_putF _ rfl 84 82 HU.out _ _ _ rfl _ _ _ rfl m26.out (by decide) 28 (.func (.func 127) #[] #[]) rfl (by decide) rfl ?_; intro w27 h g; have k27 := hid (Keep.put m26.out g); have m27 := hid h; have b27 := hid (b26.out.grown g (by have := b26.out.size; omega) (fun k e => by cases e; exact Nat.le_refl _)); clear h g) | (refine wpList_putF _ rfl 84 82 HU.out _ _ _ rfl _ _ _ rfl m27.out (by decide) 29 (.func (.func 128) #[] #[]) rfl (by decide) rfl ?_; intro w28 h g; have k28 := hid (Keep.put m27.out g); have m28 := hid h; have b28 := hid (b27.out.grown g (by have := b27.out.size; omega) (fun k e => by cases e; exact Nat.le_refl _)); clear h g) | go_in)
 go_ret
 refine ⟨B, _, _, rfl, m28.out, hB ▸ b28.out, fun op ho => ?_⟩
 have F16 := F16.out.later (((((((((((((((((((Keep.refl w10).trans k11.out).trans k12.out).trans k13.out).trans k14.out).trans k15.out).trans k16.out).trans k17.out).trans k18.out).trans k19.out).trans k20.out).trans k21.out).trans k22.out).trans k23.out).trans k24.out).trans k25.out).trans k26.out).trans k27.out).trans k28.out)
 have F17 := F17.out.later ((((((((((((((((Keep.refl w13).trans k14.out).trans k15.out).trans k16.out).trans k17.out).trans k18.out).trans k19.out).trans k20.out).trans k21.out).trans k22.out).trans k23.out).trans k24.out).trans k25.out).trans k26.out).trans k27.out).trans k28.out)
 have F18 := F18.out.later ((((((((((((((Keep.refl w15).trans k16.out).trans k17.out).trans k18.out).trans k19.out).trans k20.out).trans k21.out).trans k22.out).trans k23.out).trans k24.out).trans k25.out).trans k26.out).trans k27.out).trans k28.out)
 have F19 := F19.out.later (((((((((((Keep.refl w18).trans k19.out).trans k20.out).trans k21.out).trans k22.out).trans k23.out).trans k24.out).trans k25.out).trans k26.out).trans k27.out).trans k28.out)
 have F20 := F20.out.later (((((((((Keep.refl w20).trans k21.out).trans k22.out).trans k23.out).trans k24.out).trans k25.out).trans k26.out).trans k27.out).trans k28.out)
 refine ⟨fun h => ?_, fun h => ?_⟩
 ·unfold isTwo at h
  have h := of_decide_eq_false h
  unfold putF
  repeat rw [if_neg (by omega)]
 ·unfold isTwo at h
  have h := of_decide_eq_true h
  obtain rfl | rfl | rfl | rfl | rfl | rfl | rfl | rfl | rfl | rfl | rfl | rfl | rfl | rfl | rfl | rfl | rfl | rfl | rfl | rfl | rfl : op = 1 ∨ op = 2 ∨ op = 3 ∨ op = 4 ∨ op = 5 ∨ op = 6 ∨ op = 7 ∨ op = 10 ∨ op = 11 ∨ op = 16 ∨ op = 17 ∨ op = 18 ∨ op = 19 ∨ op = 20 ∨ op = 22 ∨ op = 23 ∨ op = 24 ∨ op = 26 ∨ op = 27 ∨ op = 28 ∨ op = 29 := by omega
  ·exact ⟨_, rfl, FnOk.of_two (enters_of Tryz.func109 (by kernel_rfl) rfl) (fun a b ha hb => ⟨wmod_lt _, (add_ret a b ha hb).toT⟩) _⟩
  ·exact ⟨_, rfl, FnOk.of_two (enters_of Tryz.func110 (by kernel_rfl) rfl) (fun a b ha hb => ⟨wmod_lt _, (mul_ret a b ha hb).toT⟩) _⟩
  ·exact ⟨_, rfl, FnOk.of_two (enters_of Tryz.func111 (by kernel_rfl) rfl) (fun a b ha hb => ⟨wsub_ltC a b, (sub_ret a b ha hb).toT⟩) _⟩
  ·exact ⟨_, rfl, FnOk.of_two (enters_of Tryz.func112 (by kernel_rfl) rfl) (fun a b ha hb => ⟨div_lt a b ha, (div_ret a b ha hb).toT⟩) _⟩
  ·exact ⟨_, rfl, FnOk.of_two (enters_of Tryz.func113 (by kernel_rfl) rfl) (fun a b ha hb => ⟨sgN_lt _ _ (div_lt _ _ (szN_lt a ha)), (sdiv_ret a b ha hb).toT⟩) _⟩
  ·exact ⟨_, rfl, FnOk.of_two (enters_of Tryz.func114 (by kernel_rfl) rfl) (fun a b ha hb => ⟨mod0_lt a b ha, (mod_ret a b ha hb).toT⟩) _⟩
  ·exact ⟨_, rfl, FnOk.of_two (enters_of Tryz.func115 (by kernel_rfl) rfl) (fun a b ha hb => ⟨sgN_lt _ _ (mod0_lt _ _ (szN_lt a ha)), (smod_ret a b ha hb).toT⟩) _⟩
  ·exact ⟨_, rfl, FnOk.of_two (enters_of Tryz.func116 (by kernel_rfl) rfl) (fun a b ha hb => ⟨wmod_lt _, (exp_ret a b ha hb).toT⟩) _⟩
  ·exact ⟨_, rfl, FnOk.of_two (enters_of Tryz.func117 (by kernel_rfl) rfl) (fun a b ha hb => ⟨signN_lt a b hb, sign_ret a b ha hb⟩) _⟩
  ·exact ⟨_, rfl, F16⟩
  ·exact ⟨_, rfl, F17⟩
  ·exact ⟨_, rfl, F18⟩
  ·exact ⟨_, rfl, F19⟩
  ·exact ⟨_, rfl, F20⟩
  ·exact ⟨_, rfl, FnOk.of_two (enters_of Tryz.func122 (by kernel_rfl) rfl) (fun a b ha hb => ⟨and_ltC a b ha, (and_ret a b ha hb).toT⟩) _⟩
  ·exact ⟨_, rfl, FnOk.of_two (enters_of Tryz.func123 (by kernel_rfl) rfl) (fun a b ha hb => ⟨or_ltC a b ha hb, (or_ret a b ha hb).toT⟩) _⟩
  ·exact ⟨_, rfl, FnOk.of_two (enters_of Tryz.func124 (by kernel_rfl) rfl) (fun a b ha hb => ⟨xor_ltC a b ha hb, (xor_ret a b ha hb).toT⟩) _⟩
  ·exact ⟨_, rfl, FnOk.of_two (enters_of Tryz.func125 (by kernel_rfl) rfl) (fun a b ha hb => ⟨byteV_w a b, (byte_ret a b ha hb).toT⟩) _⟩
  ·exact ⟨_, rfl, FnOk.of_two (enters_of Tryz.func126 (by kernel_rfl) rfl) (fun a b ha hb => ⟨wmod_lt _, shl_ret a b ha hb⟩) _⟩
  ·exact ⟨_, rfl, FnOk.of_two (enters_of Tryz.func127 (by kernel_rfl) rfl) (fun a b ha hb => ⟨div_lt b _ hb, shr_ret a b ha hb⟩) _⟩
  ·exact ⟨_, rfl, FnOk.of_two (enters_of Tryz.func128 (by kernel_rfl) rfl) (fun a b ha hb => ⟨sarN_lt a b hb, sar_ret a b ha hb⟩) _⟩
theorem addr_add0 (b : Addr) : b.add 0 = b := by cases b; simp [Addr.add]
def lenC : Value → Nat
 | .slice _ _ c => c
 | _ => 0
theorem mk1_any (W w : World) (fv tv : Value) (φ : List Nat → Nat) (a : Nat) (hf : FnOk W fv 1 φ) (hX : Keep W w) (hT : Tab w) (ht : WdsAt w tv [a]) :
  Calls Tryz.prog 66 #[fv, tv] w fun e w' => e = .returned (wv (φ [a])) ∧ Below w.heap.size w w' := by
 obtain ⟨g, cap, rfl, hE, hc⟩ := hf
 have hw := ht.all
 have HC := hid (show ∀ Y, Below w.heap.size w Y → Calls Tryz.prog g (#[wv a] ++ cap) Y fun e w' => e = .returned (wv (φ [a])) ∧ Below Y.heap.size Y w' from fun Y hY => (hc Y (hX.trans (Keep.of hY)) (hT.later hY) [a] rfl hw).2)
 obtain ⟨b0, hb0, _⟩ : ∃ b, tv = .slice (some b) 1 (lenC tv) ∧ True := by
  obtain ⟨a0, cp, h1, _, _, _, h5⟩ := ht
  obtain ⟨b, hb, _⟩ := h5 0 a rfl
  subst hb
  exact ⟨b, by rw [h1]; rfl, trivial⟩
 generalize lenC tv = cp at hb0
 subst hb0
 have HK := hid ht
 clear hc hw ht hX hT
 unfold Go.Proofs.Enters at hE
 obtain ⟨z, hz⟩ : ∃ z, lim (φ [a]) = z := ⟨_, rfl⟩
 obtain ⟨za, hza⟩ : ∃ za, lim a = za := ⟨_, rfl⟩
 unfold wv at HC ⊢
 rw [hz] at HC ⊢
 rw [hza] at HC
 go_enter Tryz.func66, Tryz.ntmps66
 have Qq := newA w (.cells z4 24)
 obtain ⟨k0, k1, k2, k3⟩ := (HK.out.later Qq).at4 (i := 0) rfl
 clear Qq
 simp only [Nat.zero_mul, addr_add0] at k0 k1 k2 k3
 rw [hza] at k0 k1 k2 k3
 have LR := Has.new w 24 z4
 obtain ⟨k1, k2, k3, k4⟩ := c4 LR
 have Q := (Below.refl w.heap.size w)
 have Q := Q.alloc Q.size (.cells z4 24)
 go_wp2_with fail
 clear k1 k2 k3 k4
 obtain ⟨W1, hW1⟩ : ∃ W1, (w.alloc (.cells z4 24)) = W1 := ⟨_, rfl⟩
 rw [hW1] at LR Q ⊢
 clear hW1
 clear k0 k1 k2 k3
 refine (HC.out _ Q).mono ?_
 rintro e v1 ⟨rfl, q⟩
 have LR := LR.later q
 have Q := Q.trans (q.mono Q.size)
 clear q hE HC HK
 obtain ⟨r0, r1, r2, r3⟩ := c4 LR
 obtain ⟨z0, z1, z2, z3⟩ := f4 LR
 have HR := hid ((s4 LR z))
 have HQ := hid ((q4 (w.heap.size) Q (by omega) z))
 clear Q LR
 go_wp2
 refine bodyPost_ret (results_word (m := z) rfl rfl HR.out) rfl ⟨rfl, HQ.out⟩
theorem mk2_any (W w : World) (fv tv : Value) (φ : List Nat → Nat) (a b : Nat) (hf : FnOk W fv 2 φ) (hX : Keep W w) (hT : Tab w) (ht : WdsAt w tv [a, b]) :
  Calls Tryz.prog 69 #[fv, tv] w fun e w' => e = .returned (wv (φ [a, b])) ∧ Below w.heap.size w w' := by
 obtain ⟨g, cap, rfl, hE, hc⟩ := hf
 have hw := ht.all
 have HC := hid (show ∀ Y, Below w.heap.size w Y → Calls Tryz.prog g (#[wv a, wv b] ++ cap) Y fun e w' => e = .returned (wv (φ [a, b])) ∧ Below Y.heap.size Y w' from fun Y hY => (hc Y (hX.trans (Keep.of hY)) (hT.later hY) [a, b] rfl hw).2)
 obtain ⟨b0, hb0, _⟩ : ∃ b, tv = .slice (some b) 2 (lenC tv) ∧ True := by
  obtain ⟨a0, cp, h1, _, _, _, h5⟩ := ht
  obtain ⟨b, hb, _⟩ := h5 0 a rfl
  subst hb
  exact ⟨b, by rw [h1]; rfl, trivial⟩
 generalize lenC tv = cp at hb0
 subst hb0
 have HK := hid ht
 clear hc hw ht hX hT
 unfold Go.Proofs.Enters at hE
 obtain ⟨z, hz⟩ : ∃ z, lim (φ [a, b]) = z := ⟨_, rfl⟩
 obtain ⟨za, hza⟩ : ∃ za, lim a = za := ⟨_, rfl⟩
 obtain ⟨zb, hzb⟩ : ∃ zb, lim b = zb := ⟨_, rfl⟩
 unfold wv at HC ⊢
 rw [hz] at HC ⊢
 rw [hza] at HC
 rw [hzb] at HC
 go_enter Tryz.func69, Tryz.ntmps69
 have LR := Has.new w 24 z4
 obtain ⟨k1, k2, k3, k4⟩ := c4 LR
 have Q := (Below.refl w.heap.size w)
 have Q := Q.alloc Q.size (.cells z4 24)
 go_wp2_with fail
 clear k1 k2 k3 k4
 obtain ⟨W1, hW1⟩ : ∃ W1, (w.alloc (.cells z4 24)) = W1 := ⟨_, rfl⟩
 rw [hW1] at LR Q ⊢
 clear hW1
 have c00 : ∀ x : Ext W1, x.w.cell? b0 = some (.int .u64 (za 0)) := fun x => by
  have h := (HK.out.later (Q.trans (x.below.mono Q.size))).at4 (i := 0) rfl
  simp only [Nat.zero_mul, addr_add0, hza] at h
  exact h.1
 have c01 : ∀ x : Ext W1, x.w.cell? ⟨b0.block, b0.off + 1, none⟩ = some (.int .u64 (za 1)) := fun x => by
  have h := (HK.out.later (Q.trans (x.below.mono Q.size))).at4 (i := 0) rfl
  simp only [Nat.zero_mul, addr_add0, hza] at h
  exact h.2.1
 have c02 : ∀ x : Ext W1, x.w.cell? ⟨b0.block, b0.off + 2, none⟩ = some (.int .u64 (za 2)) := fun x => by
  have h := (HK.out.later (Q.trans (x.below.mono Q.size))).at4 (i := 0) rfl
  simp only [Nat.zero_mul, addr_add0, hza] at h
  exact h.2.2.1
 have c03 : ∀ x : Ext W1, x.w.cell? ⟨b0.block, b0.off + 3, none⟩ = some (.int .u64 (za 3)) := fun x => by
  have h := (HK.out.later (Q.trans (x.below.mono Q.size))).at4 (i := 0) rfl
  simp only [Nat.zero_mul, addr_add0, hza] at h
  exact h.2.2.2
 have c10 : ∀ x : Ext W1, x.w.cell? ⟨b0.block, b0.off + 4, none⟩ = some (.int .u64 (zb 0)) := fun x => by
  have h := (HK.out.later (Q.trans (x.below.mono Q.size))).at4 (i := 1) rfl
  simp only [Nat.one_mul, hzb] at h
  exact h.1
 have c11 : ∀ x : Ext W1, x.w.cell? ⟨b0.block, b0.off + 5, none⟩ = some (.int .u64 (zb 1)) := fun x => by
  have h := (HK.out.later (Q.trans (x.below.mono Q.size))).at4 (i := 1) rfl
  simp only [Nat.one_mul, hzb] at h
  exact h.2.1
 have c12 : ∀ x : Ext W1, x.w.cell? ⟨b0.block, b0.off + 6, none⟩ = some (.int .u64 (zb 2)) := fun x => by
  have h := (HK.out.later (Q.trans (x.below.mono Q.size))).at4 (i := 1) rfl
  simp only [Nat.one_mul, hzb] at h
  exact h.2.2.1
 have c13 : ∀ x : Ext W1, x.w.cell? ⟨b0.block, b0.off + 7, none⟩ = some (.int .u64 (zb 3)) := fun x => by
  have h := (HK.out.later (Q.trans (x.below.mono Q.size))).at4 (i := 1) rfl
  simp only [Nat.one_mul, hzb] at h
  exact h.2.2.2
 have hcq : ∀ x : Ext W1, Calls Tryz.prog g (#[.agg #[.int .u64 (za 0), .int .u64 (za 1), .int .u64 (za 2), .int .u64 (za 3)], .agg #[.int .u64 (zb 0), .int .u64 (zb 1), .int .u64 (zb 2), .int .u64 (zb 3)]] ++ cap) x.w fun e w' => e = .returned (.agg #[.int .u64 (z 0), .int .u64 (z 1), .int .u64 (z 2), .int .u64 (z 3)]) ∧ Below x.w.heap.size x.w w' := fun x => HC.out x.w (Q.trans (x.below.mono Q.size))
 have hcr : ∀ x : Ext W1, Calls Tryz.prog g (#[.agg #[.int .u64 (za 0), .int .u64 (za 1), .int .u64 (za 2), .int .u64 (za 3)], .agg #[.int .u64 (zb 0), .int .u64 (zb 1), .int .u64 (zb 2), .int .u64 (zb 3)]] ++ cap) x.w fun e w' => e = .returned (.agg #[.int .u64 (z 0), .int .u64 (z 1), .int .u64 (z 2), .int .u64 (z 3)]) ∧ ∃ y : Ext W1, w' = y.w := fun x => (hcq x).mono fun e w' h => ⟨h.1, ⟨w', x.below.trans (h.2.mono x.below.size)⟩, rfl⟩
 have hcs : ∀ x : Ext W1, (Calls Tryz.prog g (#[.agg #[.int .u64 (za 0), .int .u64 (za 1), .int .u64 (za 2), .int .u64 (za 3)], .agg #[.int .u64 (zb 0), .int .u64 (zb 1), .int .u64 (zb 2), .int .u64 (zb 3)]] ++ cap) x.w fun e w' => e = .returned (.agg #[.int .u64 (z 0), .int .u64 (z 1), .int .u64 (z 2), .int .u64 (z 3)]) ∧ Grows W1 w') := fun x => (hcq x).mono fun e w' h => ⟨h.1, ⟨⟨w', x.below.trans (h.2.mono x.below.size)⟩, rfl⟩⟩
 clear hcq
 have hmx : Tryz.prog.follows .mixedOrders = true := by kernel_rfl
 refine wp_region_mix (C := Grows W1) [some true, some true, some true, some true, some true, some true, some true, some true, none] hmx (by kernel_rfl) (by kernel_rfl) (grows_refl W1) ?_
 simp only [headOf, tailOf]
 repeat (go_big_quiet_step (first | (with_reducible exact hcs _) | (with_reducible exact hcr _)))
 refine wpQuiet_nil ?_
 rintro _ ⟨x5, rfl⟩
 have LR := LR.later x5.below
 have Q := Q.trans (x5.below.mono Q.size)
 clear hE hcr hcs HC HK c00 c01 c02 c03 c10 c11 c12 c13 hz hza hzb
 obtain ⟨r0, r1, r2, r3⟩ := c4 LR
 obtain ⟨z0, z1, z2, z3⟩ := f4 LR
 have HR := hid ((s4 LR z))
 have HQ := hid ((q4 (w.heap.size) Q (by omega) z))
 clear Q LR
 go_wp2
 rw [calmPost_normal]
 go_wp2
 refine bodyPost_ret (results_word (m := z) rfl rfl HR.out) rfl ⟨rfl, HQ.out⟩
theorem mk3_any (W w : World) (fv tv : Value) (φ : List Nat → Nat) (a b c : Nat) (hf : FnOk W fv 3 φ) (hX : Keep W w) (hT : Tab w) (ht : WdsAt w tv [a, b, c]) :
  Calls Tryz.prog 72 #[fv, tv] w fun e w' => e = .returned (wv (φ [a, b, c])) ∧ Below w.heap.size w w' := by
 obtain ⟨g, cap, rfl, hE, hc⟩ := hf
 have hw := ht.all
 have HC := hid (show ∀ Y, Below w.heap.size w Y → Calls Tryz.prog g (#[wv a, wv b, wv c] ++ cap) Y fun e w' => e = .returned (wv (φ [a, b, c])) ∧ Below Y.heap.size Y w' from fun Y hY => (hc Y (hX.trans (Keep.of hY)) (hT.later hY) [a, b, c] rfl hw).2)
 obtain ⟨b0, hb0, _⟩ : ∃ b, tv = .slice (some b) 3 (lenC tv) ∧ True := by
  obtain ⟨a0, cp, h1, _, _, _, h5⟩ := ht
  obtain ⟨b, hb, _⟩ := h5 0 a rfl
  subst hb
  exact ⟨b, by rw [h1]; rfl, trivial⟩
 generalize lenC tv = cp at hb0
 subst hb0
 have HK := hid ht
 clear hc hw ht hX hT
 unfold Go.Proofs.Enters at hE
 obtain ⟨z, hz⟩ : ∃ z, lim (φ [a, b, c]) = z := ⟨_, rfl⟩
 obtain ⟨za, hza⟩ : ∃ za, lim a = za := ⟨_, rfl⟩
 obtain ⟨zb, hzb⟩ : ∃ zb, lim b = zb := ⟨_, rfl⟩
 obtain ⟨zc, hzc⟩ : ∃ zc, lim c = zc := ⟨_, rfl⟩
 unfold wv at HC ⊢
 rw [hz] at HC ⊢
 rw [hza] at HC
 rw [hzb] at HC
 rw [hzc] at HC
 go_enter Tryz.func72, Tryz.ntmps72
 have LR := Has.new w 24 z4
 obtain ⟨k1, k2, k3, k4⟩ := c4 LR
 have Q := (Below.refl w.heap.size w)
 have Q := Q.alloc Q.size (.cells z4 24)
 go_wp2_with fail
 clear k1 k2 k3 k4
 obtain ⟨W1, hW1⟩ : ∃ W1, (w.alloc (.cells z4 24)) = W1 := ⟨_, rfl⟩
 rw [hW1] at LR Q ⊢
 clear hW1
 have c00 : ∀ x : Ext W1, x.w.cell? b0 = some (.int .u64 (za 0)) := fun x => by
  have h := (HK.out.later (Q.trans (x.below.mono Q.size))).at4 (i := 0) rfl
  simp only [Nat.zero_mul, addr_add0, hza] at h
  exact h.1
 have c01 : ∀ x : Ext W1, x.w.cell? ⟨b0.block, b0.off + 1, none⟩ = some (.int .u64 (za 1)) := fun x => by
  have h := (HK.out.later (Q.trans (x.below.mono Q.size))).at4 (i := 0) rfl
  simp only [Nat.zero_mul, addr_add0, hza] at h
  exact h.2.1
 have c02 : ∀ x : Ext W1, x.w.cell? ⟨b0.block, b0.off + 2, none⟩ = some (.int .u64 (za 2)) := fun x => by
  have h := (HK.out.later (Q.trans (x.below.mono Q.size))).at4 (i := 0) rfl
  simp only [Nat.zero_mul, addr_add0, hza] at h
  exact h.2.2.1
 have c03 : ∀ x : Ext W1, x.w.cell? ⟨b0.block, b0.off + 3, none⟩ = some (.int .u64 (za 3)) := fun x => by
  have h := (HK.out.later (Q.trans (x.below.mono Q.size))).at4 (i := 0) rfl
  simp only [Nat.zero_mul, addr_add0, hza] at h
  exact h.2.2.2
 have c10 : ∀ x : Ext W1, x.w.cell? ⟨b0.block, b0.off + 4, none⟩ = some (.int .u64 (zb 0)) := fun x => by
  have h := (HK.out.later (Q.trans (x.below.mono Q.size))).at4 (i := 1) rfl
  simp only [Nat.one_mul, hzb] at h
  exact h.1
 have c11 : ∀ x : Ext W1, x.w.cell? ⟨b0.block, b0.off + 5, none⟩ = some (.int .u64 (zb 1)) := fun x => by
  have h := (HK.out.later (Q.trans (x.below.mono Q.size))).at4 (i := 1) rfl
  simp only [Nat.one_mul, hzb] at h
  exact h.2.1
 have c12 : ∀ x : Ext W1, x.w.cell? ⟨b0.block, b0.off + 6, none⟩ = some (.int .u64 (zb 2)) := fun x => by
  have h := (HK.out.later (Q.trans (x.below.mono Q.size))).at4 (i := 1) rfl
  simp only [Nat.one_mul, hzb] at h
  exact h.2.2.1
 have c13 : ∀ x : Ext W1, x.w.cell? ⟨b0.block, b0.off + 7, none⟩ = some (.int .u64 (zb 3)) := fun x => by
  have h := (HK.out.later (Q.trans (x.below.mono Q.size))).at4 (i := 1) rfl
  simp only [Nat.one_mul, hzb] at h
  exact h.2.2.2
 have c20 : ∀ x : Ext W1, x.w.cell? ⟨b0.block, b0.off + 8, none⟩ = some (.int .u64 (zc 0)) := fun x => by
  have h := (HK.out.later (Q.trans (x.below.mono Q.size))).at4 (i := 2) rfl
  simp only [Nat.reduceMul, hzc] at h
  exact h.1
 have c21 : ∀ x : Ext W1, x.w.cell? ⟨b0.block, b0.off + 9, none⟩ = some (.int .u64 (zc 1)) := fun x => by
  have h := (HK.out.later (Q.trans (x.below.mono Q.size))).at4 (i := 2) rfl
  simp only [Nat.reduceMul, hzc] at h
  exact h.2.1
 have c22 : ∀ x : Ext W1, x.w.cell? ⟨b0.block, b0.off + 10, none⟩ = some (.int .u64 (zc 2)) := fun x => by
  have h := (HK.out.later (Q.trans (x.below.mono Q.size))).at4 (i := 2) rfl
  simp only [Nat.reduceMul, hzc] at h
  exact h.2.2.1
 have c23 : ∀ x : Ext W1, x.w.cell? ⟨b0.block, b0.off + 11, none⟩ = some (.int .u64 (zc 3)) := fun x => by
  have h := (HK.out.later (Q.trans (x.below.mono Q.size))).at4 (i := 2) rfl
  simp only [Nat.reduceMul, hzc] at h
  exact h.2.2.2
 have hcq : ∀ x : Ext W1, Calls Tryz.prog g (#[.agg #[.int .u64 (za 0), .int .u64 (za 1), .int .u64 (za 2), .int .u64 (za 3)], .agg #[.int .u64 (zb 0), .int .u64 (zb 1), .int .u64 (zb 2), .int .u64 (zb 3)], .agg #[.int .u64 (zc 0), .int .u64 (zc 1), .int .u64 (zc 2), .int .u64 (zc 3)]] ++ cap) x.w fun e w' => e = .returned (.agg #[.int .u64 (z 0), .int .u64 (z 1), .int .u64 (z 2), .int .u64 (z 3)]) ∧ Below x.w.heap.size x.w w' := fun x => HC.out x.w (Q.trans (x.below.mono Q.size))
 have hcr : ∀ x : Ext W1, Calls Tryz.prog g (#[.agg #[.int .u64 (za 0), .int .u64 (za 1), .int .u64 (za 2), .int .u64 (za 3)], .agg #[.int .u64 (zb 0), .int .u64 (zb 1), .int .u64 (zb 2), .int .u64 (zb 3)], .agg #[.int .u64 (zc 0), .int .u64 (zc 1), .int .u64 (zc 2), .int .u64 (zc 3)]] ++ cap) x.w fun e w' => e = .returned (.agg #[.int .u64 (z 0), .int .u64 (z 1), .int .u64 (z 2), .int .u64 (z 3)]) ∧ ∃ y : Ext W1, w' = y.w := fun x => (hcq x).mono fun e w' h => ⟨h.1, ⟨w', x.below.trans (h.2.mono x.below.size)⟩, rfl⟩
 have hcs : ∀ x : Ext W1, (Calls Tryz.prog g (#[.agg #[.int .u64 (za 0), .int .u64 (za 1), .int .u64 (za 2), .int .u64 (za 3)], .agg #[.int .u64 (zb 0), .int .u64 (zb 1), .int .u64 (zb 2), .int .u64 (zb 3)], .agg #[.int .u64 (zc 0), .int .u64 (zc 1), .int .u64 (zc 2), .int .u64 (zc 3)]] ++ cap) x.w fun e w' => e = .returned (.agg #[.int .u64 (z 0), .int .u64 (z 1), .int .u64 (z 2), .int .u64 (z 3)]) ∧ Grows W1 w') := fun x => (hcq x).mono fun e w' h => ⟨h.1, ⟨⟨w', x.below.trans (h.2.mono x.below.size)⟩, rfl⟩⟩
 clear hcq
 have hmx : Tryz.prog.follows .mixedOrders = true := by kernel_rfl
 refine wp_region_mix (C := Grows W1) [some true, some true, some true, some true, some true, some true, some true, some true, some true, some true, some true, none] hmx (by kernel_rfl) (by kernel_rfl) (grows_refl W1) ?_
 simp only [headOf, tailOf]
 repeat (go_big_quiet_step (first | (with_reducible exact hcs _) | (with_reducible exact hcr _)))
 refine wpQuiet_nil ?_
 rintro _ ⟨x5, rfl⟩
 have LR := LR.later x5.below
 have Q := Q.trans (x5.below.mono Q.size)
 clear hE hcr hcs HC HK c00 c01 c02 c03 c10 c11 c12 c13 c20 c21 c22 c23 hz hza hzb hzc
 obtain ⟨r0, r1, r2, r3⟩ := c4 LR
 obtain ⟨z0, z1, z2, z3⟩ := f4 LR
 have HR := hid ((s4 LR z))
 have HQ := hid ((q4 (w.heap.size) Q (by omega) z))
 clear Q LR
 go_wp2
 rw [calmPost_normal]
 go_wp2
 refine bodyPost_ret (results_word (m := z) rfl rfl HR.out) rfl ⟨rfl, HQ.out⟩
end
end Go.Proofs.YtnkhmgmganejmaaGreatDoor

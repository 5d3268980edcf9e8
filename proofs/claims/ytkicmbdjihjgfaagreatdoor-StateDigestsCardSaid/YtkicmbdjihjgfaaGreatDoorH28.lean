/- Part. -/
import Derived.Test.YtkicmbdjihjgfaaGreatDoorH27
set_option maxRecDepth 100000
set_option maxHeartbeats 16000000
namespace Go.Proofs.YtkicmbdjihjgfaaGreatDoor
section
open Go Go.RowKit
def atV : Nat := 5 * 256 ^ 19
def ac1 : Ac := ⟨atV, 5, 0, ⟨#[]⟩, []⟩
def ac3 : Ac := ⟨atV, 5, 0, ⟨#[]⟩, [(1, 2)]⟩
def ch1 : Ch := ⟨1, atV, 0, 5, 0, ⟨#[]⟩⟩
def un1 : Ch := ⟨1, atV, 0, 0, 0, ⟨#[]⟩⟩
def ch3 : Ch := ⟨4, atV, 1, 2, 0, ⟨#[]⟩⟩
def ch4 : Ch := ⟨5, 0, 0, 0, 0, ⟨#[]⟩⟩
theorem rightB_none : rightB' [] = true := (rightB_iff' []).2 ⟨by simp, by unfold Rise; simp, by simp⟩
theorem rightB_one {x : Sl} (h : x.2 ≠ 0) : rightB' [x] = true := (rightB_iff' [x]).2 ⟨by simp, by unfold Rise; simp, by simp [h]⟩
theorem rightS_nil : rightS [] = true := by unfold rightS upsB; simp [Ups]
theorem rightS_one {x : Ac} (h : strayB x = false) : rightS [x] = true := by unfold rightS upsB; simp [Ups, h]
theorem findA_one (x : Ac) : findA [x] x.at_ = x := by simp [findA]
theorem findA_nil (t : Nat) : findA [] t = ⟨t, 0, 0, ⟨#[]⟩, []⟩ := rfl
theorem putA_nil (x : Ac) : putA [] x = if emptyB x = true then [] else [x] := by simp [putA]
theorem putA_one {x y : Ac} (h : x.at_ = y.at_) : putA [x] y = if emptyB y = true then [] else [y] := by simp [putA, h]
theorem atV_lt : atV < 256 ^ 20 := by unfold atV; decide
theorem ch1_ok : ChOk ch1 := ⟨by unfold I64 ch1; decide, atV_lt, by unfold W256 ch1; decide, by unfold W256 ch1; decide, by unfold I64 ch1; decide, by decide⟩
theorem un1_ok : ChOk un1 := ⟨by unfold I64 un1; decide, atV_lt, by unfold W256 un1; decide, by unfold W256 un1; decide, by unfold I64 un1; decide, by decide⟩
theorem ch3_ok : ChOk ch3 := ⟨by unfold I64 ch3; decide, atV_lt, by unfold W256 ch3; decide, by unfold W256 ch3; decide, by unfold I64 ch3; decide, by decide⟩
theorem ch4_ok : ChOk ch4 := ⟨by unfold I64 ch4; decide, by unfold ch4; decide, by unfold W256 ch4; decide, by unfold W256 ch4; decide, by unfold I64 ch4; decide, by decide⟩
theorem may_ac (n b : Nat) (z : Int) (l : List Sl) (h : rightB' l = true) (h1 : 0 ≤ z) (h2 : z ≤ 9007199254740992) : mayB ⟨n, b, z, ⟨#[]⟩, l⟩ = true := by
 have : (⟨#[]⟩ : ByteArray).size ≤ 24576 := by decide
 unfold mayB
 simp only [h, decide_eq_true h1, decide_eq_true h2, decide_eq_true this, Bool.and_self]
theorem empty_bal (n b : Nat) (z : Int) (c : ByteArray) (l : List Sl) (h : b ≠ 0) : emptyB ⟨n, b, z, c, l⟩ = false := by unfold emptyB; simp [h]
theorem empty_zero (n : Nat) : emptyB ⟨n, 0, 0, ⟨#[]⟩, []⟩ = true := by unfold emptyB; rfl
theorem stray1 : strayB ac1 = false := by unfold strayB ac1; rw [empty_bal _ _ _ _ _ (by decide), may_ac _ _ _ _ rightB_none (by decide) (by decide)]; rfl
theorem stray3 : strayB ac3 = false := by unfold strayB ac3; rw [empty_bal _ _ _ _ _ (by decide), may_ac _ _ _ _ (rightB_one (by decide)) (by decide) (by decide)]; rfl
theorem do_good {l : List Ac} {c : Ch} {x : Ac} {u : Ch} (h1 : rightS l = true) (h2 : chgE (findA l c.at_) c = 0) (h3 : chgX (findA l c.at_) c = x) (h4 : mayB x = true) (h5 : (putA l x).length ≤ 200) (h6 : chgU (findA l c.at_) c = u) : doE l c = 0 ∧ doL l c = putA l x ∧ doU l c = u := by
 have h : doE l c = 0 := by
  unfold doE
  rw [if_neg (by rw [h1]; decide), h2, h3, if_neg (by decide), if_neg (by rw [h4]; decide), if_pos h5]
 refine ⟨h, ?_, ?_⟩
 ·unfold doL; rw [if_pos h, h3]
 ·unfold doU; rw [if_pos h, h6]
theorem do_1 : doE [] ch1 = 0 ∧ doL [] ch1 = [ac1] ∧ doU [] ch1 = un1 := by
 have := do_good (l := []) (c := ch1) (x := ac1) (u := un1) rightS_nil (by unfold chgE; rfl) (by rw [findA_nil]; unfold chgX; rfl) (by unfold ac1; exact may_ac _ _ _ _ rightB_none (by decide) (by decide)) (by rw [putA_nil]; split <;> simp) (by rw [findA_nil]; unfold chgU; rfl)
 rwa [putA_nil, show emptyB ac1 = false from empty_bal _ _ _ _ _ (by decide), if_neg (by decide)] at this
theorem do_2 : doE [ac1] un1 = 0 ∧ doL [ac1] un1 = [] := by
 have hf : findA [ac1] un1.at_ = ac1 := findA_one ac1
 have hp : putA [ac1] ⟨atV, 0, 0, ⟨#[]⟩, []⟩ = if emptyB ⟨atV, 0, 0, ⟨#[]⟩, []⟩ = true then [] else [⟨atV, 0, 0, ⟨#[]⟩, []⟩] := putA_one rfl
 have := do_good (l := [ac1]) (c := un1) (x := ⟨atV, 0, 0, ⟨#[]⟩, []⟩) (u := ch1) (rightS_one stray1) (by unfold chgE; rfl) (by rw [hf]; unfold chgX; rfl) (may_ac _ _ _ _ rightB_none (by decide) (by decide)) (by rw [hp]; split <;> simp) (by rw [hf]; unfold chgU; rfl)
 rw [hp, if_pos (empty_zero _)] at this
 exact ⟨this.1, this.2.1⟩
theorem merge_12 : mergeL [] [(1, 2)] = [(1, 2)] := by simp [mergeL, bothL, listF, behindF]
theorem do_3 : doE [ac1] ch3 = 0 ∧ doL [ac1] ch3 = [ac3] := by
 have hf : findA [ac1] ch3.at_ = ac1 := findA_one ac1
 have hp : putA [ac1] ac3 = if emptyB ac3 = true then [] else [ac3] := putA_one rfl
 have h1 : rightB' ac1.slots = true := rightB_none
 have h2 : mergeL ac1.slots [(ch3.key, ch3.val)] = [(1, 2)] := merge_12
 have h3 : chgE ac1 ch3 = 0 := by
  unfold chgE
  rw [if_neg (by decide), if_neg (by decide), if_neg (by decide), if_pos (by decide), if_pos h1, h2, if_pos (by simp)]
 have h4 : chgX ac1 ch3 = ac3 := by
  unfold chgX
  rw [if_neg (by decide), if_neg (by decide), if_neg (by decide), if_pos (by decide), if_pos h1, h2, if_pos (by simp)]
  rfl
 have := do_good (l := [ac1]) (c := ch3) (x := ac3) (u := chgU ac1 ch3) (rightS_one stray1) (by rw [hf]; exact h3) (by rw [hf]; exact h4) (by unfold ac3; exact may_ac _ _ _ _ (rightB_one (by decide)) (by decide) (by decide)) (by rw [hp]; split <;> simp) (by rw [hf])
 rw [hp, show emptyB ac3 = false from empty_bal _ _ _ _ _ (by decide), if_neg (by decide)] at this
 exact ⟨this.1, this.2.1⟩
theorem do_4 : doE [ac1] ch4 = 1 ∧ doL [ac1] ch4 = [ac1] := by
 have h2 : chgE (findA [ac1] ch4.at_) ch4 = 1 := by unfold chgE; rfl
 have h : doE [ac1] ch4 = 1 := by
  unfold doE
  rw [if_neg (by rw [rightS_one stray1]; decide), h2, if_pos (by decide)]
 refine ⟨h, ?_⟩
 unfold doL
 rw [if_neg (by rw [h]; decide)]
theorem set_5 (x : Ac) : setE [⟨0, 0, 0, ⟨#[]⟩, []⟩] x = 1 := by
 unfold setE
 rw [if_pos (by unfold rightS; simp [strayB, empty_zero])]
theorem adC_at : adC atV = #[.int .u8 5, .int .u8 0, .int .u8 0, .int .u8 0, .int .u8 0, .int .u8 0, .int .u8 0, .int .u8 0, .int .u8 0, .int .u8 0, .int .u8 0, .int .u8 0, .int .u8 0, .int .u8 0, .int .u8 0, .int .u8 0, .int .u8 0, .int .u8 0, .int .u8 0, .int .u8 0] := by
 rfl
theorem small_w (n : Nat) (h : n < 1000) : wv n = .agg #[.int .u64 (n : Int), .int .u64 0, .int .u64 0, .int .u64 0] := by
 unfold wv
 have : ∀ n : Nat, n < 1000 → lim n 0 = (n : Int) ∧ lim n 1 = 0 ∧ lim n 2 = 0 ∧ lim n 3 = 0 := fun n h => by
  unfold lim
  refine ⟨?_, ?_, ?_, ?_⟩ <;> simp <;> omega
 obtain ⟨h0, h1, h2, h3⟩ := this n h
 rw [h0, h1, h2, h3]
def UA (W : World) (l : List Ac) (u : Ch) (er : Int) (f : Nat → Bool) (g : Nat → Value) (w : World) : Prop :=
 Below W.heap.size W w ∧ (f 4 = true → ∃ v, g 4 = .tuple #[v, .agg (chC u), .int .i64 er] ∧ StK w v l) ∧ (f 5 = true → g 5 = g 4) ∧ (f 6 = true → ∃ a b, g 4 = .tuple #[g 6, a, b]) ∧
 (f 9 = true → ∃ b, g 9 = .pointer (some ⟨b, 0, none⟩) ∧ W.heap.size ≤ b ∧ (f 11 = false → Has w b 33 #[.int .i64 0, .int .u8 0, .int .u8 0, .int .u8 0, .int .u8 0, .int .u8 0, .int .u8 0, .int .u8 0, .int .u8 0, .int .u8 0, .int .u8 0, .int .u8 0, .int .u8 0, .int .u8 0, .int .u8 0, .int .u8 0, .int .u8 0, .int .u8 0, .int .u8 0, .int .u8 0, .int .u8 0, .int .u64 0, .int .u64 0, .int .u64 0, .int .u64 0, .int .u64 0, .int .u64 0, .int .u64 0, .int .u64 0, .int .i64 0, .string { data := #[] }]) ∧ (f 11 = true → Has w b 33 (chC u))) ∧ (f 10 = true → g 10 = g 6)
section
variable {W : World} {l : List Ac} {u : Ch} {er : Int} {f : Nat → Bool} {g : Nat → Value} {w w' : World}
theorem UA.later (h : UA W l u er f g w) (hb : Below w.heap.size w w') : UA W l u er f g w' := by
 obtain ⟨h1, h2, h3, h4, h5, h6⟩ := h
 refine ⟨h1.trans (hb.mono h1.size), fun e => ?_, h3, h4, fun e => ?_, h6⟩
 ·obtain ⟨v, e1, e2⟩ := h2 e; exact ⟨v, e1, e2.later hb⟩
 ·obtain ⟨b, e1, e2, e3, e4⟩ := h5 e
  exact ⟨b, e1, e2, fun k => (e3 k).later hb, fun k => (e4 k).later hb⟩
theorem UA.same {f' : Nat → Bool} {g' : Nat → Value} (h : UA W l u er f g w) (hh : ∀ j, j = 4 ∨ j = 5 ∨ j = 6 ∨ j = 9 ∨ j = 10 ∨ j = 11 → f j = f' j ∧ g j = g' j) : UA W l u er f' g' w := by
 unfold UA at h ⊢
 rwa [(hh 4 (by omega)).1, (hh 4 (by omega)).2, (hh 5 (by omega)).1, (hh 5 (by omega)).2, (hh 6 (by omega)).1, (hh 6 (by omega)).2, (hh 9 (by omega)).1, (hh 9 (by omega)).2, (hh 10 (by omega)).1, (hh 10 (by omega)).2, (hh 11 (by omega)).1] at h
theorem UA.start (g : Nat → Value) : UA W l u er (fun _ => false) g { W with drawn := W.drawn + 1 } :=
 ⟨(Below.refl _ _).drew, fun h => absurd h (by simp), fun h => absurd h (by simp), fun h => absurd h (by simp), fun h => absurd h (by simp), fun h => absurd h (by simp)⟩
theorem UA.call (h : UA W l u er f g w) (hb : Below w.heap.size w w') (f1 : f 5 = false) (f2 : f 6 = false) {v : Value} (hk : StK w' v l) : UA W l u er (upd f 4 true) (upd g 4 (.tuple #[v, .agg (chC u), .int .i64 er])) w' := by
 obtain ⟨h1, h2, h3, h4, h5, h6⟩ := h.later hb
 exact ⟨h1, fun _ => ⟨v, by simp [upd], hk⟩, by simp [upd, f1], by simp [upd, f2], by simpa [upd] using h5, by simpa [upd] using h6⟩
theorem UA.move (h : UA W l u er f g w) : UA W l u er (upd f 5 true) (upd g 5 (g 4)) w := by
 obtain ⟨h1, h2, h3, h4, h5, h6⟩ := h
 exact ⟨h1, by simpa [upd] using h2, by simp [upd], by simpa [upd] using h4, by simpa [upd] using h5, by simpa [upd] using h6⟩
theorem UA.ext (h : UA W l u er f g w) (f1 : f 10 = false) {v a b : Value} (e : g 4 = .tuple #[v, a, b]) : UA W l u er (upd f 6 true) (upd g 6 v) w := by
 obtain ⟨h1, h2, h3, h4, h5, h6⟩ := h
 exact ⟨h1, by simpa [upd] using h2, by simpa [upd] using h3, fun _ => ⟨a, b, by simpa [upd] using e⟩, by simpa [upd] using h5, by simp [upd, f1]⟩
theorem UA.box (h : UA W l u er f g w) (f1 : f 11 = false) : UA W l u er (upd f 9 true) (upd g 9 (.pointer (some ⟨w.heap.size, 0, none⟩))) (w.alloc (.cells #[.int .i64 0, .int .u8 0, .int .u8 0, .int .u8 0, .int .u8 0, .int .u8 0, .int .u8 0, .int .u8 0, .int .u8 0, .int .u8 0, .int .u8 0, .int .u8 0, .int .u8 0, .int .u8 0, .int .u8 0, .int .u8 0, .int .u8 0, .int .u8 0, .int .u8 0, .int .u8 0, .int .u8 0, .int .u64 0, .int .u64 0, .int .u64 0, .int .u64 0, .int .u64 0, .int .u64 0, .int .u64 0, .int .u64 0, .int .i64 0, .string { data := #[] }] 33)) := by
 obtain ⟨h1, h2, h3, h4, h5, h6⟩ := h.later (newA w (.cells #[.int .i64 0, .int .u8 0, .int .u8 0, .int .u8 0, .int .u8 0, .int .u8 0, .int .u8 0, .int .u8 0, .int .u8 0, .int .u8 0, .int .u8 0, .int .u8 0, .int .u8 0, .int .u8 0, .int .u8 0, .int .u8 0, .int .u8 0, .int .u8 0, .int .u8 0, .int .u8 0, .int .u8 0, .int .u64 0, .int .u64 0, .int .u64 0, .int .u64 0, .int .u64 0, .int .u64 0, .int .u64 0, .int .u64 0, .int .i64 0, .string { data := #[] }] 33))
 exact ⟨h1, by simpa [upd] using h2, by simpa [upd] using h3, by simpa [upd] using h4, fun _ => ⟨w.heap.size, by simp [upd], h.1.size, fun _ => Has.new w 33 #[.int .i64 0, .int .u8 0, .int .u8 0, .int .u8 0, .int .u8 0, .int .u8 0, .int .u8 0, .int .u8 0, .int .u8 0, .int .u8 0, .int .u8 0, .int .u8 0, .int .u8 0, .int .u8 0, .int .u8 0, .int .u8 0, .int .u8 0, .int .u8 0, .int .u8 0, .int .u8 0, .int .u8 0, .int .u64 0, .int .u64 0, .int .u64 0, .int .u64 0, .int .u64 0, .int .u64 0, .int .u64 0, .int .u64 0, .int .i64 0, .string { data := #[] }], fun k => by simp [upd, f1] at k⟩, by simpa [upd] using h6⟩
theorem UA.asg (h : UA W l u er f g w) : UA W l u er (upd f 10 true) (upd g 10 (g 6)) w := by
 obtain ⟨h1, h2, h3, h4, h5, h6⟩ := h
 exact ⟨h1, by simpa [upd] using h2, by simpa [upd] using h3, by simpa [upd] using h4, by simpa [upd] using h5, by simp [upd]⟩
theorem UA.put (h : UA W l u er f g w) (fa : f 9 = true) (f1 : f 11 = false) {b : Nat} (eb : g 9 = .pointer (some ⟨b, 0, none⟩)) (v : Value) : UA W l u er (upd f 11 true) (upd g 11 v) (w.setRow b (chC u)) := by
 obtain ⟨h1, h2, h3, h4, h5, h6⟩ := h
 obtain ⟨b', e1, e2, e3, e4⟩ := h5 fa
 rw [eb] at e1
 injection e1 with e1
 injection e1 with e1
 injection e1 with e1 _ _
 subst e1
 have hz := e3 f1
 refine ⟨below_rowAc h1 e2 _, fun k => ?_, by simpa [upd] using h3, by simpa [upd] using h4, fun _ => ⟨b, by simpa [upd] using eb, e2, fun k => by simp [upd] at k, fun _ => setRow_heap _ _ _ _ _ _ hz⟩, by simpa [upd] using h6⟩
 obtain ⟨s, k1, k2⟩ := h2 (by simpa [upd] using k)
 exact ⟨s, by simpa [upd] using k1, k2.row hz (by decide) _⟩
end
def UB (W : World) (l : List Ac) (u : Ch) (er : Int) (f : Nat → Bool) (g : Nat → Value) (w : World) : Prop :=
 Below W.heap.size W w ∧ (f 7 = true → ∃ v, g 7 = .tuple #[v, .agg (chC u), .int .i64 er] ∧ StK w v l) ∧ (f 8 = true → g 8 = g 7) ∧ (f 9 = true → ∃ a b, g 7 = .tuple #[g 9, a, b]) ∧
 (f 12 = true → ∃ b, g 12 = .pointer (some ⟨b, 0, none⟩) ∧ W.heap.size ≤ b ∧ (f 14 = false → Has w b 33 #[.int .i64 0, .int .u8 0, .int .u8 0, .int .u8 0, .int .u8 0, .int .u8 0, .int .u8 0, .int .u8 0, .int .u8 0, .int .u8 0, .int .u8 0, .int .u8 0, .int .u8 0, .int .u8 0, .int .u8 0, .int .u8 0, .int .u8 0, .int .u8 0, .int .u8 0, .int .u8 0, .int .u8 0, .int .u64 0, .int .u64 0, .int .u64 0, .int .u64 0, .int .u64 0, .int .u64 0, .int .u64 0, .int .u64 0, .int .i64 0, .string { data := #[] }]) ∧ (f 14 = true → Has w b 33 (chC u))) ∧ (f 13 = true → g 13 = g 9)
section
variable {W : World} {l : List Ac} {u : Ch} {er : Int} {f : Nat → Bool} {g : Nat → Value} {w w' : World}
theorem UB.later (h : UB W l u er f g w) (hb : Below w.heap.size w w') : UB W l u er f g w' := by
 obtain ⟨h1, h2, h3, h4, h5, h6⟩ := h
 refine ⟨h1.trans (hb.mono h1.size), fun e => ?_, h3, h4, fun e => ?_, h6⟩
 ·obtain ⟨v, e1, e2⟩ := h2 e; exact ⟨v, e1, e2.later hb⟩
 ·obtain ⟨b, e1, e2, e3, e4⟩ := h5 e
  exact ⟨b, e1, e2, fun k => (e3 k).later hb, fun k => (e4 k).later hb⟩
theorem UB.same {f' : Nat → Bool} {g' : Nat → Value} (h : UB W l u er f g w) (hh : ∀ j, j = 7 ∨ j = 8 ∨ j = 9 ∨ j = 12 ∨ j = 13 ∨ j = 14 → f j = f' j ∧ g j = g' j) : UB W l u er f' g' w := by
 unfold UB at h ⊢
 rwa [(hh 7 (by omega)).1, (hh 7 (by omega)).2, (hh 8 (by omega)).1, (hh 8 (by omega)).2, (hh 9 (by omega)).1, (hh 9 (by omega)).2, (hh 12 (by omega)).1, (hh 12 (by omega)).2, (hh 13 (by omega)).1, (hh 13 (by omega)).2, (hh 14 (by omega)).1] at h
theorem UB.start (g : Nat → Value) : UB W l u er (fun _ => false) g { W with drawn := W.drawn + 1 } :=
 ⟨(Below.refl _ _).drew, fun h => absurd h (by simp), fun h => absurd h (by simp), fun h => absurd h (by simp), fun h => absurd h (by simp), fun h => absurd h (by simp)⟩
theorem UB.call (h : UB W l u er f g w) (hb : Below w.heap.size w w') (f1 : f 8 = false) (f2 : f 9 = false) {v : Value} (hk : StK w' v l) : UB W l u er (upd f 7 true) (upd g 7 (.tuple #[v, .agg (chC u), .int .i64 er])) w' := by
 obtain ⟨h1, h2, h3, h4, h5, h6⟩ := h.later hb
 exact ⟨h1, fun _ => ⟨v, by simp [upd], hk⟩, by simp [upd, f1], by simp [upd, f2], by simpa [upd] using h5, by simpa [upd] using h6⟩
theorem UB.move (h : UB W l u er f g w) : UB W l u er (upd f 8 true) (upd g 8 (g 7)) w := by
 obtain ⟨h1, h2, h3, h4, h5, h6⟩ := h
 exact ⟨h1, by simpa [upd] using h2, by simp [upd], by simpa [upd] using h4, by simpa [upd] using h5, by simpa [upd] using h6⟩
theorem UB.ext (h : UB W l u er f g w) (f1 : f 13 = false) {v a b : Value} (e : g 7 = .tuple #[v, a, b]) : UB W l u er (upd f 9 true) (upd g 9 v) w := by
 obtain ⟨h1, h2, h3, h4, h5, h6⟩ := h
 exact ⟨h1, by simpa [upd] using h2, by simpa [upd] using h3, fun _ => ⟨a, b, by simpa [upd] using e⟩, by simpa [upd] using h5, by simp [upd, f1]⟩
theorem UB.box (h : UB W l u er f g w) (f1 : f 14 = false) : UB W l u er (upd f 12 true) (upd g 12 (.pointer (some ⟨w.heap.size, 0, none⟩))) (w.alloc (.cells #[.int .i64 0, .int .u8 0, .int .u8 0, .int .u8 0, .int .u8 0, .int .u8 0, .int .u8 0, .int .u8 0, .int .u8 0, .int .u8 0, .int .u8 0, .int .u8 0, .int .u8 0, .int .u8 0, .int .u8 0, .int .u8 0, .int .u8 0, .int .u8 0, .int .u8 0, .int .u8 0, .int .u8 0, .int .u64 0, .int .u64 0, .int .u64 0, .int .u64 0, .int .u64 0, .int .u64 0, .int .u64 0, .int .u64 0, .int .i64 0, .string { data := #[] }] 33)) := by
 obtain ⟨h1, h2, h3, h4, h5, h6⟩ := h.later (newA w (.cells #[.int .i64 0, .int .u8 0, .int .u8 0, .int .u8 0, .int .u8 0, .int .u8 0, .int .u8 0, .int .u8 0, .int .u8 0, .int .u8 0, .int .u8 0, .int .u8 0, .int .u8 0, .int .u8 0, .int .u8 0, .int .u8 0, .int .u8 0, .int .u8 0, .int .u8 0, .int .u8 0, .int .u8 0, .int .u64 0, .int .u64 0, .int .u64 0, .int .u64 0, .int .u64 0, .int .u64 0, .int .u64 0, .int .u64 0, .int .i64 0, .string { data := #[] }] 33))
 exact ⟨h1, by simpa [upd] using h2, by simpa [upd] using h3, by simpa [upd] using h4, fun _ => ⟨w.heap.size, by simp [upd], h.1.size, fun _ => Has.new w 33 #[.int .i64 0, .int .u8 0, .int .u8 0, .int .u8 0, .int .u8 0, .int .u8 0, .int .u8 0, .int .u8 0, .int .u8 0, .int .u8 0, .int .u8 0, .int .u8 0, .int .u8 0, .int .u8 0, .int .u8 0, .int .u8 0, .int .u8 0, .int .u8 0, .int .u8 0, .int .u8 0, .int .u8 0, .int .u64 0, .int .u64 0, .int .u64 0, .int .u64 0, .int .u64 0, .int .u64 0, .int .u64 0, .int .u64 0, .int .i64 0, .string { data := #[] }], fun k => by simp [upd, f1] at k⟩, by simpa [upd] using h6⟩
theorem UB.asg (h : UB W l u er f g w) : UB W l u er (upd f 13 true) (upd g 13 (g 9)) w := by
 obtain ⟨h1, h2, h3, h4, h5, h6⟩ := h
 exact ⟨h1, by simpa [upd] using h2, by simpa [upd] using h3, by simpa [upd] using h4, by simpa [upd] using h5, by simp [upd]⟩
theorem UB.put (h : UB W l u er f g w) (fa : f 12 = true) (f1 : f 14 = false) {b : Nat} (eb : g 12 = .pointer (some ⟨b, 0, none⟩)) (v : Value) : UB W l u er (upd f 14 true) (upd g 14 v) (w.setRow b (chC u)) := by
 obtain ⟨h1, h2, h3, h4, h5, h6⟩ := h
 obtain ⟨b', e1, e2, e3, e4⟩ := h5 fa
 rw [eb] at e1
 injection e1 with e1
 injection e1 with e1
 injection e1 with e1 _ _
 subst e1
 have hz := e3 f1
 refine ⟨below_rowAc h1 e2 _, fun k => ?_, by simpa [upd] using h3, by simpa [upd] using h4, fun _ => ⟨b, by simpa [upd] using eb, e2, fun k => by simp [upd] at k, fun _ => setRow_heap _ _ _ _ _ _ hz⟩, by simpa [upd] using h6⟩
 obtain ⟨s, k1, k2⟩ := h2 (by simpa [upd] using k)
 exact ⟨s, by simpa [upd] using k1, k2.row hz (by decide) _⟩
end
end
section
open Go Go.RowKit
attribute [local go_sem] Oper.semAt_some Grows wide_fn eq4
theorem of_lit (n : Nat) (w : World) (h : n < 1000 := by decide) : Calls Tryz.prog 27 #[.int .i64 (n : Int)] w fun e w' => e = .returned (.agg #[.int .u64 (n : Int), .int .u64 0, .int .u64 0, .int .u64 0]) ∧ Below w.heap.size w w' := by
 have h1 := of_small8 n h w
 have h2 := small_w n h
 unfold wv at h2
 rw [h2] at h1
 exact h1
theorem adC_one (n : Nat) : (adC n).all (·.oneCell') = true := by
 rw [Array.all_eq_true_iff_forall_mem]
 intro u hu
 have hu' : u ∈ adL n := by simpa [adC] using hu
 obtain ⟨i, _, rfl⟩ := List.mem_map.1 hu'
 rfl
theorem StK.shape {w : World} {v : Value} {l : List Ac} (h : StK w v l) : ∃ a c, v = .slice a l.length c := by
 obtain ⟨lo, ps, h1, h2, h3⟩ := h
 obtain ⟨a, c, e⟩ := h2.shape
 exact ⟨a, c, by rw [e, ← h1, List.length_map]⟩
theorem ch1_cells : chC ch1 = #[.int .i64 1, .int .u8 5, .int .u8 0, .int .u8 0, .int .u8 0, .int .u8 0, .int .u8 0, .int .u8 0, .int .u8 0, .int .u8 0, .int .u8 0, .int .u8 0, .int .u8 0, .int .u8 0, .int .u8 0, .int .u8 0, .int .u8 0, .int .u8 0, .int .u8 0, .int .u8 0, .int .u8 0, .int .u64 0, .int .u64 0, .int .u64 0, .int .u64 0, .int .u64 5, .int .u64 0, .int .u64 0, .int .u64 0, .int .i64 0, .string { data := #[] }] := by
 unfold ch1 chC chL chT
 rw [show adL atV = #[.int .u8 5, .int .u8 0, .int .u8 0, .int .u8 0, .int .u8 0, .int .u8 0, .int .u8 0, .int .u8 0, .int .u8 0, .int .u8 0, .int .u8 0, .int .u8 0, .int .u8 0, .int .u8 0, .int .u8 0, .int .u8 0, .int .u8 0, .int .u8 0, .int .u8 0, .int .u8 0].toList from congrArg Array.toList adC_at]
 rfl
theorem ch3_cells : chC ch3 = #[.int .i64 4, .int .u8 5, .int .u8 0, .int .u8 0, .int .u8 0, .int .u8 0, .int .u8 0, .int .u8 0, .int .u8 0, .int .u8 0, .int .u8 0, .int .u8 0, .int .u8 0, .int .u8 0, .int .u8 0, .int .u8 0, .int .u8 0, .int .u8 0, .int .u8 0, .int .u8 0, .int .u8 0, .int .u64 1, .int .u64 0, .int .u64 0, .int .u64 0, .int .u64 2, .int .u64 0, .int .u64 0, .int .u64 0, .int .i64 0, .string { data := #[] }] := by
 unfold ch3 chC chL chT
 rw [show adL atV = #[.int .u8 5, .int .u8 0, .int .u8 0, .int .u8 0, .int .u8 0, .int .u8 0, .int .u8 0, .int .u8 0, .int .u8 0, .int .u8 0, .int .u8 0, .int .u8 0, .int .u8 0, .int .u8 0, .int .u8 0, .int .u8 0, .int .u8 0, .int .u8 0, .int .u8 0, .int .u8 0].toList from congrArg Array.toList adC_at]
 rfl
theorem ch4_cells : chC ch4 = #[.int .i64 5, .int .u8 0, .int .u8 0, .int .u8 0, .int .u8 0, .int .u8 0, .int .u8 0, .int .u8 0, .int .u8 0, .int .u8 0, .int .u8 0, .int .u8 0, .int .u8 0, .int .u8 0, .int .u8 0, .int .u8 0, .int .u8 0, .int .u8 0, .int .u8 0, .int .u8 0, .int .u8 0, .int .u64 0, .int .u64 0, .int .u64 0, .int .u64 0, .int .u64 0, .int .u64 0, .int .u64 0, .int .u64 0, .int .i64 0, .string { data := #[] }] := by
 unfold ch4 chC chL chT
 rfl
theorem slots1 : ∀ y ∈ [ac1], y.slots.length ≤ 100000 := by simp [ac1]
theorem slots3 : ∀ y ∈ [ac3], y.slots.length ≤ 100000 := by simp [ac3]
theorem do1_any (W : World) : Calls Tryz.prog 23 #[.slice none 0 0, .agg #[.int .i64 1, .int .u8 5, .int .u8 0, .int .u8 0, .int .u8 0, .int .u8 0, .int .u8 0, .int .u8 0, .int .u8 0, .int .u8 0, .int .u8 0, .int .u8 0, .int .u8 0, .int .u8 0, .int .u8 0, .int .u8 0, .int .u8 0, .int .u8 0, .int .u8 0, .int .u8 0, .int .u8 0, .int .u64 0, .int .u64 0, .int .u64 0, .int .u64 0, .int .u64 5, .int .u64 0, .int .u64 0, .int .u64 0, .int .i64 0, .string { data := #[] }]] W fun e w' => ∃ v, e = .returned (.tuple #[v, .agg (chC un1), .int .i64 0]) ∧ StK w' v [ac1] ∧ Below W.heap.size W w' := by
 have h := do_any W (.slice none 0 0) [] (StAt.nil W) (by simp) (by simp) ch1 ch1_ok
 rwa [do_1.1, do_1.2.1, do_1.2.2, ch1_cells] at h
theorem do2_any (W : World) (v : Value) (hv : StAt W v [ac1]) : Calls Tryz.prog 23 #[v, .agg (chC un1)] W fun e w' => ∃ v, e = .returned (.tuple #[v, .agg (chC (doU [ac1] un1)), .int .i64 0]) ∧ StK w' v [] ∧ Below W.heap.size W w' := by
 have h := do_any W v [ac1] hv (by simp) slots1 un1 un1_ok
 rwa [do_2.1, do_2.2] at h
theorem do3_any (W : World) (v : Value) (hv : StAt W v [ac1]) : Calls Tryz.prog 23 #[v, .agg #[.int .i64 4, .int .u8 5, .int .u8 0, .int .u8 0, .int .u8 0, .int .u8 0, .int .u8 0, .int .u8 0, .int .u8 0, .int .u8 0, .int .u8 0, .int .u8 0, .int .u8 0, .int .u8 0, .int .u8 0, .int .u8 0, .int .u8 0, .int .u8 0, .int .u8 0, .int .u8 0, .int .u8 0, .int .u64 1, .int .u64 0, .int .u64 0, .int .u64 0, .int .u64 2, .int .u64 0, .int .u64 0, .int .u64 0, .int .i64 0, .string { data := #[] }]] W fun e w' => ∃ v, e = .returned (.tuple #[v, .agg (chC (doU [ac1] ch3)), .int .i64 0]) ∧ StK w' v [ac3] ∧ Below W.heap.size W w' := by
 have h := do_any W v [ac1] hv (by simp) slots1 ch3 ch3_ok
 rwa [do_3.1, do_3.2, ch3_cells] at h
theorem do4_any (W : World) (v : Value) (hv : StAt W v [ac1]) : Calls Tryz.prog 23 #[v, .agg #[.int .i64 5, .int .u8 0, .int .u8 0, .int .u8 0, .int .u8 0, .int .u8 0, .int .u8 0, .int .u8 0, .int .u8 0, .int .u8 0, .int .u8 0, .int .u8 0, .int .u8 0, .int .u8 0, .int .u8 0, .int .u8 0, .int .u8 0, .int .u8 0, .int .u8 0, .int .u8 0, .int .u8 0, .int .u64 0, .int .u64 0, .int .u64 0, .int .u64 0, .int .u64 0, .int .u64 0, .int .u64 0, .int .u64 0, .int .i64 0, .string { data := #[] }]] W fun e w' => ∃ v, e = .returned (.tuple #[v, .agg (chC (doU [ac1] ch4)), .int .i64 1]) ∧ StK w' v [ac1] ∧ Below W.heap.size W w' := by
 have h := do_any W v [ac1] hv (by simp) slots1 ch4 ch4_ok
 rwa [do_4.1, do_4.2, ch4_cells] at h
theorem un1_cells : chC un1 = #[.int .i64 1, .int .u8 5, .int .u8 0, .int .u8 0, .int .u8 0, .int .u8 0, .int .u8 0, .int .u8 0, .int .u8 0, .int .u8 0, .int .u8 0, .int .u8 0, .int .u8 0, .int .u8 0, .int .u8 0, .int .u8 0, .int .u8 0, .int .u8 0, .int .u8 0, .int .u8 0, .int .u8 0, .int .u64 0, .int .u64 0, .int .u64 0, .int .u64 0, .int .u64 0, .int .u64 0, .int .u64 0, .int .u64 0, .int .i64 0, .string { data := #[] }] := by
 unfold un1 chC chL chT
 rw [show adL atV = #[.int .u8 5, .int .u8 0, .int .u8 0, .int .u8 0, .int .u8 0, .int .u8 0, .int .u8 0, .int .u8 0, .int .u8 0, .int .u8 0, .int .u8 0, .int .u8 0, .int .u8 0, .int .u8 0, .int .u8 0, .int .u8 0, .int .u8 0, .int .u8 0, .int .u8 0, .int .u8 0].toList from congrArg Array.toList adC_at]
 rfl
theorem acz_cells : acC ⟨0, 0, 0, ⟨#[]⟩, []⟩ (.slice none 0 0) = #[.int .u8 0, .int .u8 0, .int .u8 0, .int .u8 0, .int .u8 0, .int .u8 0, .int .u8 0, .int .u8 0, .int .u8 0, .int .u8 0, .int .u8 0, .int .u8 0, .int .u8 0, .int .u8 0, .int .u8 0, .int .u8 0, .int .u8 0, .int .u8 0, .int .u8 0, .int .u8 0, .int .u64 0, .int .u64 0, .int .u64 0, .int .u64 0, .int .i64 0, .string { data := #[] }, .slice none 0 0] := by
 unfold acC acL
 rfl
theorem acat_cells : acC ⟨atV, 0, 0, ⟨#[]⟩, []⟩ (.slice none 0 0) = #[.int .u8 5, .int .u8 0, .int .u8 0, .int .u8 0, .int .u8 0, .int .u8 0, .int .u8 0, .int .u8 0, .int .u8 0, .int .u8 0, .int .u8 0, .int .u8 0, .int .u8 0, .int .u8 0, .int .u8 0, .int .u8 0, .int .u8 0, .int .u8 0, .int .u8 0, .int .u8 0, .int .u64 0, .int .u64 0, .int .u64 0, .int .u64 0, .int .i64 0, .string { data := #[] }, .slice none 0 0] := by
 unfold acC acL
 rw [show adL atV = #[.int .u8 5, .int .u8 0, .int .u8 0, .int .u8 0, .int .u8 0, .int .u8 0, .int .u8 0, .int .u8 0, .int .u8 0, .int .u8 0, .int .u8 0, .int .u8 0, .int .u8 0, .int .u8 0, .int .u8 0, .int .u8 0, .int .u8 0, .int .u8 0, .int .u8 0, .int .u8 0].toList from congrArg Array.toList adC_at]
 rfl
theorem eq_un1 (w : World) : (Op.equalIn 10000 33 (.agg #[.int .i64 1, .int .u8 5, .int .u8 0, .int .u8 0, .int .u8 0, .int .u8 0, .int .u8 0, .int .u8 0, .int .u8 0, .int .u8 0, .int .u8 0, .int .u8 0, .int .u8 0, .int .u8 0, .int .u8 0, .int .u8 0, .int .u8 0, .int .u8 0, .int .u8 0, .int .u8 0, .int .u8 0, .int .u64 0, .int .u64 0, .int .u64 0, .int .u64 0, .int .u64 0, .int .u64 0, .int .u64 0, .int .u64 0, .int .i64 0, .string { data := #[] }]) (.agg #[.int .i64 1, .int .u8 5, .int .u8 0, .int .u8 0, .int .u8 0, .int .u8 0, .int .u8 0, .int .u8 0, .int .u8 0, .int .u8 0, .int .u8 0, .int .u8 0, .int .u8 0, .int .u8 0, .int .u8 0, .int .u8 0, .int .u8 0, .int .u8 0, .int .u8 0, .int .u8 0, .int .u8 0, .int .u64 0, .int .u64 0, .int .u64 0, .int .u64 0, .int .u64 0, .int .u64 0, .int .u64 0, .int .u64 0, .int .i64 0, .string { data := #[] }])).run Tryz.prog w = .ok true w := by
 kernel_rfl
theorem ac3_ok : AcOk ac3 := ⟨atV_lt, by unfold W256 ac3; decide, by unfold I64 ac3; decide, by decide⟩
theorem acz_ok : AcOk ⟨0, 0, 0, ⟨#[]⟩, []⟩ := ⟨by decide, by unfold W256; decide, by unfold I64; decide, by decide⟩
theorem acat_ok : AcOk ⟨atV, 0, 0, ⟨#[]⟩, []⟩ := ⟨atV_lt, by unfold W256; decide, by unfold I64; decide, by decide⟩
theorem st_one {W : World} {B : Nat} {x : Ac} {sx : Value} (h : Has W B 31 (acC x sx)) (hx : AcOk x) (hs : SlotsAt W sx x.slots) : StAt W (.slice (some ⟨B, 0, none⟩) 1 1) [x] := by
 refine ⟨some ⟨B, 0, none⟩, 1, rfl, by simp, by omega, fun y hy => by simp at hy; subst hy; exact hx, fun i y hy => ?_⟩
 cases i with
 | zero =>
  simp at hy
  subst hy
  refine ⟨_, sx, rfl, hs, fun j u hj => ?_⟩
  rw [Addr.add_add, Nat.zero_mul, Nat.zero_add, add_lit, Nat.zero_add]
  exact h.cell j u (by simpa [acC] using hj)
 | succ i => simp at hy
theorem sum_c0 : (sumS c0B).size = 32 ∧ (sumS c0B).extract 0 2 = ⟨#[29, 204]⟩ := by
 refine ⟨sumS_size _, ?_⟩
 have h := congrArg (fun b : ByteArray => b.extract 0 2) c0_head
 simp only [ByteArray.extract_extract] at h
 rw [show min (0 + 2) 6 = 2 from rfl, Nat.add_zero] at h
 rw [h]
 rfl
theorem ac13 : sameS [ac1] [ac3] = false := sameS_false (by simp [ac1, ac3])
theorem awake_any (w : World) (hT : Tab w) : Calls Tryz.prog 7 #[] w fun e w' => e = .returned (.bool true) ∧ Below w.heap.size w w' := by
 have hmx : Tryz.prog.follows .mixedOrders = true := by kernel_rfl
 have HT := hid hT
 obtain ⟨W0, hW0, h0, q0⟩ := newBox w 25 #[.int .u8 0, .int .u8 0, .int .u8 0, .int .u8 0, .int .u8 0, .int .u8 0, .int .u8 0, .int .u8 0, .int .u8 0, .int .u8 0, .int .u8 0, .int .u8 0, .int .u8 0, .int .u8 0, .int .u8 0, .int .u8 0, .int .u8 0, .int .u8 0, .int .u8 0, .int .u8 0]
 obtain ⟨W1, hW1⟩ : ∃ W1, W0.setRow w.heap.size #[.int .u8 5, .int .u8 0, .int .u8 0, .int .u8 0, .int .u8 0, .int .u8 0, .int .u8 0, .int .u8 0, .int .u8 0, .int .u8 0, .int .u8 0, .int .u8 0, .int .u8 0, .int .u8 0, .int .u8 0, .int .u8 0, .int .u8 0, .int .u8 0, .int .u8 0, .int .u8 0] = W1 := ⟨_, rfl⟩
 have h1 : Has W1 w.heap.size 25 (adC atV) := by rw [← hW1, adC_at]; exact setRow_heap _ _ _ _ _ _ h0
 have Q1 := hid (show Below w.heap.size w W1 by rw [← hW1]; exact below_rowAc q0 (g := w.heap.size) (Nat.le_refl _) _)
 have HAT := hid h1
 have hia : (Tryz.prog.info? 25).map (·.size) = some (#[.int .u8 5, .int .u8 0, .int .u8 0, .int .u8 0, .int .u8 0, .int .u8 0, .int .u8 0, .int .u8 0, .int .u8 0, .int .u8 0, .int .u8 0, .int .u8 0, .int .u8 0, .int .u8 0, .int .u8 0, .int .u8 0, .int .u8 0, .int .u8 0, .int .u8 0, .int .u8 0] : Array Value).size := infoAd
 have haa : (#[.int .u8 5, .int .u8 0, .int .u8 0, .int .u8 0, .int .u8 0, .int .u8 0, .int .u8 0, .int .u8 0, .int .u8 0, .int .u8 0, .int .u8 0, .int .u8 0, .int .u8 0, .int .u8 0, .int .u8 0, .int .u8 0, .int .u8 0, .int .u8 0, .int .u8 0, .int .u8 0] : Array Value).all (·.oneCell') = true := by rw [← adC_at]; exact adC_one _
 have HLD := hid (show ∀ X, Below W1.heap.size W1 X → (loadVar 25 ⟨w.heap.size, 0, none⟩).run Tryz.prog X = .ok (.agg #[.int .u8 5, .int .u8 0, .int .u8 0, .int .u8 0, .int .u8 0, .int .u8 0, .int .u8 0, .int .u8 0, .int .u8 0, .int .u8 0, .int .u8 0, .int .u8 0, .int .u8 0, .int .u8 0, .int .u8 0, .int .u8 0, .int .u8 0, .int .u8 0, .int .u8 0, .int .u8 0]) X from fun X hX => by
  have := (HAT.out.later hX).adLoad
  rwa [adC_at] at this)
 clear hT h1 q0
 go_enter Tryz.func7, Tryz.ntmps7
 go_wp2_with (refine wpList_store_row rfl _ (.tmp 2) (.tmp 20) rfl _ _ rfl rfl _ _ h0 hia rfl haa ?_; rw [hW1])
 clear hW0 hW1 h0
 refine Late.wp_region_ghost [some (.agg #[.int .u8 5, .int .u8 0, .int .u8 0, .int .u8 0, .int .u8 0, .int .u8 0, .int .u8 0, .int .u8 0, .int .u8 0, .int .u8 0, .int .u8 0, .int .u8 0, .int .u8 0, .int .u8 0, .int .u8 0, .int .u8 0, .int .u8 0, .int .u8 0, .int .u8 0, .int .u8 0]), some (.func (.func 27) #[] #[]), some (.agg #[.int .u64 5, .int .u64 0, .int .u64 0, .int .u64 0]), some (.agg #[.int .i64 1, .int .u8 5, .int .u8 0, .int .u8 0, .int .u8 0, .int .u8 0, .int .u8 0, .int .u8 0, .int .u8 0, .int .u8 0, .int .u8 0, .int .u8 0, .int .u8 0, .int .u8 0, .int .u8 0, .int .u8 0, .int .u8 0, .int .u8 0, .int .u8 0, .int .u8 0, .int .u8 0, .int .u64 0, .int .u64 0, .int .u64 0, .int .u64 0, .int .u64 5, .int .u64 0, .int .u64 0, .int .u64 0, .int .i64 0, .string { data := #[] }]), none, none, none, some (.agg (chC un1)), some (.int .i64 0), none, none, none, some (.int .i64 0)] [[], [], [1], [0, 1, 2], [0, 1, 2, 3], [0, 1, 2, 3, 4], [0, 1, 2, 3, 4, 5], [0, 1, 2, 3, 4, 5], [0, 1, 2, 3, 4, 5], [], [0, 1, 2, 3, 4, 5, 6, 9], [0, 1, 2, 3, 4, 5, 6, 7, 9, 10], [0, 1, 2, 3, 4, 5, 6, 7, 8, 9, 10, 11]] (UA W1 [ac1] un1 0) hmx (by kernel_rfl) (by kernel_rfl) (fun f g wa wb h hb => h.later hb) (fun f f' g g' wa h => fun hh => hh.same (fun j hj => h j (by rcases hj with rfl | rfl | rfl | rfl | rfl | rfl <;> rfl))) (UA.start _) ?_
 rintro f g y3 hU Dn
 refine GW.known _ rfl (fun hd hf => ?_) ?_
 ·have hl := HLD.out y3 (hU.1)
  clear hU Dn hd
  go_wp2_with (refine wpList_load_known rfl _ (.tmp 2) rfl _ rfl _ hl ?_)
  exact ⟨rfl, rfl, Below.refl _ _⟩
 simp only [Act.put, sT, sS, sZ]
 refine GW.known _ rfl (fun hd hf => ?_) ?_
 ·clear hU Dn hd
  go_wp2_with fail
  exact ⟨rfl, rfl, Below.refl _ _⟩
 simp only [Act.put, sT, sS, sZ]
 refine GW.known _ rfl (fun hd hf => ?_) ?_
 ·have HO := of_lit 5 y3
  clear hU Dn hd
  go_wp2_with fail
  refine HO.mono ?_
  rintro e u ⟨rfl, hb⟩
  go_wp2
  exact ⟨rfl, rfl, hb⟩
 simp only [Act.put, sT, sS, sZ]
 refine GW.known _ rfl (fun hd hf => ?_) ?_
 ·clear hU Dn hd
  go_wp2_with fail
  exact ⟨rfl, rfl, Below.refl _ _⟩
 simp only [Act.put, sT, sS, sZ]
 refine GW.open rfl (fun hd hf => ?_) ?_
 ·have f1 : f 5 = false := (by cases h : f 5 with | false => rfl | true => exact absurd (Dn 5 h 4 (by decide)) (by rw [hf]; simp))
  have f2 : f 6 = false := (by cases h : f 6 with | false => rfl | true => exact absurd (Dn 6 h 4 (by decide)) (by rw [hf]; simp))
  have HDO := do1_any y3
  have hfin := fun (w' : World) (v : Value) (hb : Below y3.heap.size y3 w') (hk : StK w' v [ac1]) => hU.call hb f1 f2 hk
  clear hU Dn hd f1 f2
  go_wp2_with fail
  refine HDO.mono ?_
  rintro e x ⟨v, rfl, hk, hb⟩
  have hfin' := hfin x v hb hk
  clear hfin HDO hk hb
  go_wp2
  exact ⟨rfl, hfin'⟩
 simp only [Act.put, sT, sS, sZ]
 refine GW.open rfl (fun hd hf => ?_) ?_
 ·have hm := hU.move
  clear hU Dn hd
  go_wp2
  exact ⟨rfl, hm⟩
 simp only [Act.put, sT, sS, sZ]
 refine GW.open rfl (fun hd hf => ?_) ?_
 ·obtain ⟨v5, e5, k5⟩ := hU.2.1 (hd 4 (by decide))
  have e6 := hU.2.2.1 (hd 5 (by decide))
  have f1 : f 10 = false := (by cases h : f 10 with | false => rfl | true => exact absurd (Dn 10 h 6 (by decide)) (by rw [hf]; simp))
  have hm := hU.ext f1 e5
  rw [e6, e5]
  clear hU Dn hd e6 e5 k5
  go_wp2
  exact ⟨rfl, hm⟩
 simp only [Act.put, sT, sS, sZ]
 refine GW.known _ rfl (fun hd hf => ?_) ?_
 ·obtain ⟨v5, e5, k5⟩ := hU.2.1 (hd 4 (by decide))
  have e6 := hU.2.2.1 (hd 5 (by decide))
  rw [e6, e5]
  clear hU Dn hd e6 e5 k5
  go_wp2
  exact ⟨rfl, rfl, Below.refl _ _⟩
 simp only [Act.put, sT, sS, sZ]
 refine GW.known _ rfl (fun hd hf => ?_) ?_
 ·obtain ⟨v5, e5, k5⟩ := hU.2.1 (hd 4 (by decide))
  have e6 := hU.2.2.1 (hd 5 (by decide))
  rw [e6, e5]
  clear hU Dn hd e6 e5 k5
  go_wp2
  exact ⟨rfl, rfl, Below.refl _ _⟩
 simp only [Act.put, sT, sS, sZ]
 refine GW.open rfl (fun hd hf => ?_) ?_
 ·have f1 : f 11 = false := (by cases h : f 11 with | false => rfl | true => exact absurd (Dn 11 h 9 (by decide)) (by rw [hf]; simp))
  have hm := hU.box f1
  clear hU Dn hd f1
  go_wp2
  exact ⟨rfl, hm⟩
 simp only [Act.put, sT, sS, sZ]
 refine GW.open rfl (fun hd hf => ?_) ?_
 ·have hm := hU.asg
  clear hU Dn hd
  go_wp2
  exact ⟨rfl, hm⟩
 simp only [Act.put, sT, sS, sZ]
 refine GW.open rfl (fun hd hf => ?_) ?_
 ·obtain ⟨b, eb, hwb, hz, _⟩ := hU.2.2.2.2.1 (hd 9 (by decide))
  have hz' := hz hf
  have hm := fun v => hU.put (hd 9 (by decide)) hf eb v
  have hi7 := chRow un1
  rw [eb]
  clear hU Dn hd hz eb
  go_wp2_with (refine wpList_store_row rfl _ (.tmp 4) (.tmp 28) rfl _ _ rfl rfl _ _ hz' hi7.1 hi7.2.1 hi7.2.2 ?_)
  exact ⟨rfl, hm _⟩
 simp only [Act.put]
 refine GW.known _ rfl (fun hd hf => ?_) ?_
 ·clear hU Dn hd
  go_wp2_with fail
  exact ⟨rfl, rfl, Below.refl _ _⟩
 simp only [Act.put, sT, sS, sZ]
 refine GW.nil (fun hall => ?_)
 obtain ⟨v1, e5, k1⟩ := hU.2.1 (hall 4 (by omega))
 have e6 := hU.2.2.1 (hall 5 (by omega))
 obtain ⟨p7, q7, e7⟩ := hU.2.2.2.1 (hall 6 (by omega))
 have e7' : g 6 = v1 := by
  rw [e5] at e7
  have h := e7.symm
  simp at h
  exact h.1
 obtain ⟨b4, eb4, hw4, _, hb4⟩ := hU.2.2.2.2.1 (hall 9 (by omega))
 have hB4 := hb4 (hall 11 (by omega))
 have e10 := hU.2.2.2.2.2 (hall 10 (by omega))
 have hQ := hU.1
 obtain ⟨a1, c1, rfl⟩ := k1.shape
 rw [e10, e7', eb4, e5, e6, e5]
 have KS := hid k1
 have QY3 := hid (Q1.out.trans (hQ.mono Q1.out.size))
 have QA3 := hid hQ
 have HB4 := hid hB4
 clear hU Dn hall e5 e6 e7 e7' eb4 hb4 hB4 e10 hQ k1
 simp only [List.length_cons, List.length_nil, Nat.zero_add] at KS ⊢
 have hl4 := HB4.out.chLoad
 have HD2 := do2_any y3 (.slice a1 1 c1) KS.out.st
 go_wp2_with (refine wpList_load_known rfl _ (.tmp 4) rfl _ rfl _ hl4 ?_)
 refine HD2.mono ?_
 rintro _ w4 ⟨v2, rfl, k2, q4⟩
 clear HD2
 obtain ⟨a2, c2, rfl⟩ := k2.shape
 obtain ⟨W5a, hWa, h4, q5⟩ := newK1 w4
 have hi4 := chRow (doU [ac1] un1)
 obtain ⟨W5, hWb⟩ : ∃ X, W5a.setRow w4.heap.size (chC (doU [ac1] un1)) = X := ⟨_, rfl⟩
 have q6 : Below w4.heap.size w4 W5 := by rw [← hWb]; exact below_rowAc q5 (g := w4.heap.size) (Nat.le_refl _) _
 have K2 := hid (k2.later q6)
 have Q35 := hid (q4.trans (q6.mono q4.size))
 clear k2 q4 q5 q6
 simp only [List.length_nil] at K2 ⊢
 go_wp2_with (refine wpList_store_row rfl _ (.tmp 7) (.tmp 35) rfl _ _ rfl rfl _ _ h4 hi4.1 hi4.2.1 hi4.2.2 ?_; rw [hWb])
 clear h4 hi4 hWa hWb
 clear hl4
 have KS5 := hid (KS.out.later Q35.out)
 have QW5 := hid (QY3.out.trans (Q35.out.mono QY3.out.size))
 have Q15 := hid (QA3.out.trans (Q35.out.mono QA3.out.size))
 have HB5 := hid (HB4.out.later Q35.out)
 refine Late.wp_region_ghost [some (.slice a1 1 c1), some (.agg #[.int .u8 5, .int .u8 0, .int .u8 0, .int .u8 0, .int .u8 0, .int .u8 0, .int .u8 0, .int .u8 0, .int .u8 0, .int .u8 0, .int .u8 0, .int .u8 0, .int .u8 0, .int .u8 0, .int .u8 0, .int .u8 0, .int .u8 0, .int .u8 0, .int .u8 0, .int .u8 0]), some (.func (.func 27) #[] #[]), some (.agg #[.int .u64 1, .int .u64 0, .int .u64 0, .int .u64 0]), some (.func (.func 27) #[] #[]), some (.agg #[.int .u64 2, .int .u64 0, .int .u64 0, .int .u64 0]), some (.agg #[.int .i64 4, .int .u8 5, .int .u8 0, .int .u8 0, .int .u8 0, .int .u8 0, .int .u8 0, .int .u8 0, .int .u8 0, .int .u8 0, .int .u8 0, .int .u8 0, .int .u8 0, .int .u8 0, .int .u8 0, .int .u8 0, .int .u8 0, .int .u8 0, .int .u8 0, .int .u8 0, .int .u8 0, .int .u64 1, .int .u64 0, .int .u64 0, .int .u64 0, .int .u64 2, .int .u64 0, .int .u64 0, .int .u64 0, .int .i64 0, .string { data := #[] }]), none, none, none, some (.agg (chC (doU [ac1] ch3))), some (.int .i64 0), none, none, none, some (.int .i64 0)] [[], [], [], [2], [], [2, 3, 4], [1, 2, 3, 4, 5], [0, 1, 2, 3, 4, 5, 6], [0, 1, 2, 3, 4, 5, 6, 7], [0, 1, 2, 3, 4, 5, 6, 7, 8], [0, 1, 2, 3, 4, 5, 6, 7, 8], [0, 1, 2, 3, 4, 5, 6, 7, 8], [], [0, 1, 2, 3, 4, 5, 6, 7, 8, 9, 12], [0, 1, 2, 3, 4, 5, 6, 7, 8, 9, 10, 12, 13], [0, 1, 2, 3, 4, 5, 6, 7, 8, 9, 10, 11, 12, 13, 14]] (UB W5 [ac3] (doU [ac1] ch3) 0) hmx (by kernel_rfl) (by kernel_rfl) (fun f g wa wb h hb => h.later hb) (fun f f' g g' wa h => fun hh => hh.same (fun j hj => h j (by rcases hj with rfl | rfl | rfl | rfl | rfl | rfl <;> rfl))) (UB.start _) ?_
 rintro f g y5 hU Dn
 refine GW.known _ rfl (fun hd hf => ?_) ?_
 ·clear hU Dn hd
  go_wp2_with fail
  exact ⟨rfl, rfl, Below.refl _ _⟩
 simp only [Act.put, sT, sS, sZ]
 refine GW.known _ rfl (fun hd hf => ?_) ?_
 ·have hl := HLD.out y5 (Q15.out.trans (hU.1.mono Q15.out.size))
  clear hU Dn hd
  go_wp2_with (refine wpList_load_known rfl _ (.tmp 2) rfl _ rfl _ hl ?_)
  exact ⟨rfl, rfl, Below.refl _ _⟩
 simp only [Act.put, sT, sS, sZ]
 refine GW.known _ rfl (fun hd hf => ?_) ?_
 ·clear hU Dn hd
  go_wp2_with fail
  exact ⟨rfl, rfl, Below.refl _ _⟩
 simp only [Act.put, sT, sS, sZ]
 refine GW.known _ rfl (fun hd hf => ?_) ?_
 ·have HO := of_lit 1 y5
  clear hU Dn hd
  go_wp2_with fail
  refine HO.mono ?_
  rintro e u ⟨rfl, hb⟩
  go_wp2
  exact ⟨rfl, rfl, hb⟩
 simp only [Act.put, sT, sS, sZ]
 refine GW.known _ rfl (fun hd hf => ?_) ?_
 ·clear hU Dn hd
  go_wp2_with fail
  exact ⟨rfl, rfl, Below.refl _ _⟩
 simp only [Act.put, sT, sS, sZ]
 refine GW.known _ rfl (fun hd hf => ?_) ?_
 ·have HO := of_lit 2 y5
  clear hU Dn hd
  go_wp2_with fail
  refine HO.mono ?_
  rintro e u ⟨rfl, hb⟩
  go_wp2
  exact ⟨rfl, rfl, hb⟩
 simp only [Act.put, sT, sS, sZ]
 refine GW.known _ rfl (fun hd hf => ?_) ?_
 ·clear hU Dn hd
  go_wp2_with fail
  exact ⟨rfl, rfl, Below.refl _ _⟩
 simp only [Act.put, sT, sS, sZ]
 refine GW.open rfl (fun hd hf => ?_) ?_
 ·have f1 : f 8 = false := (by cases h : f 8 with | false => rfl | true => exact absurd (Dn 8 h 7 (by decide)) (by rw [hf]; simp))
  have f2 : f 9 = false := (by cases h : f 9 with | false => rfl | true => exact absurd (Dn 9 h 7 (by decide)) (by rw [hf]; simp))
  have HDO := do3_any y5 (.slice a1 1 c1) (KS5.out.later hU.1).st
  have hfin := fun (w' : World) (v : Value) (hb : Below y5.heap.size y5 w') (hk : StK w' v [ac3]) => hU.call hb f1 f2 hk
  clear hU Dn hd f1 f2
  go_wp2_with fail
  refine HDO.mono ?_
  rintro e x ⟨v, rfl, hk, hb⟩
  have hfin' := hfin x v hb hk
  clear hfin HDO hk hb
  go_wp2
  exact ⟨rfl, hfin'⟩
 simp only [Act.put, sT, sS, sZ]
 refine GW.open rfl (fun hd hf => ?_) ?_
 ·have hm := hU.move
  clear hU Dn hd
  go_wp2
  exact ⟨rfl, hm⟩
 simp only [Act.put, sT, sS, sZ]
 refine GW.open rfl (fun hd hf => ?_) ?_
 ·obtain ⟨v5, e5, k5⟩ := hU.2.1 (hd 7 (by decide))
  have e6 := hU.2.2.1 (hd 8 (by decide))
  have f1 : f 13 = false := (by cases h : f 13 with | false => rfl | true => exact absurd (Dn 13 h 9 (by decide)) (by rw [hf]; simp))
  have hm := hU.ext f1 e5
  rw [e6, e5]
  clear hU Dn hd e6 e5 k5
  go_wp2
  exact ⟨rfl, hm⟩
 simp only [Act.put, sT, sS, sZ]
 refine GW.known _ rfl (fun hd hf => ?_) ?_
 ·obtain ⟨v5, e5, k5⟩ := hU.2.1 (hd 7 (by decide))
  have e6 := hU.2.2.1 (hd 8 (by decide))
  rw [e6, e5]
  clear hU Dn hd e6 e5 k5
  go_wp2
  exact ⟨rfl, rfl, Below.refl _ _⟩
 simp only [Act.put, sT, sS, sZ]
 refine GW.known _ rfl (fun hd hf => ?_) ?_
 ·obtain ⟨v5, e5, k5⟩ := hU.2.1 (hd 7 (by decide))
  have e6 := hU.2.2.1 (hd 8 (by decide))
  rw [e6, e5]
  clear hU Dn hd e6 e5 k5
  go_wp2
  exact ⟨rfl, rfl, Below.refl _ _⟩
 simp only [Act.put, sT, sS, sZ]
 refine GW.open rfl (fun hd hf => ?_) ?_
 ·have f1 : f 14 = false := (by cases h : f 14 with | false => rfl | true => exact absurd (Dn 14 h 12 (by decide)) (by rw [hf]; simp))
  have hm := hU.box f1
  clear hU Dn hd f1
  go_wp2
  exact ⟨rfl, hm⟩
 simp only [Act.put, sT, sS, sZ]
 refine GW.open rfl (fun hd hf => ?_) ?_
 ·have hm := hU.asg
  clear hU Dn hd
  go_wp2
  exact ⟨rfl, hm⟩
 simp only [Act.put, sT, sS, sZ]
 refine GW.open rfl (fun hd hf => ?_) ?_
 ·obtain ⟨b, eb, hwb, hz, _⟩ := hU.2.2.2.2.1 (hd 12 (by decide))
  have hz' := hz hf
  have hm := fun v => hU.put (hd 12 (by decide)) hf eb v
  have hi7 := chRow (doU [ac1] ch3)
  rw [eb]
  clear hU Dn hd hz eb
  go_wp2_with (refine wpList_store_row rfl _ (.tmp 10) (.tmp 47) rfl _ _ rfl rfl _ _ hz' hi7.1 hi7.2.1 hi7.2.2 ?_)
  exact ⟨rfl, hm _⟩
 simp only [Act.put]
 refine GW.known _ rfl (fun hd hf => ?_) ?_
 ·clear hU Dn hd
  go_wp2_with fail
  exact ⟨rfl, rfl, Below.refl _ _⟩
 simp only [Act.put, sT, sS, sZ]
 refine GW.nil (fun hall => ?_)
 obtain ⟨v3, e5, k1⟩ := hU.2.1 (hall 7 (by omega))
 have e6 := hU.2.2.1 (hall 8 (by omega))
 obtain ⟨p7, q7, e7⟩ := hU.2.2.2.1 (hall 9 (by omega))
 have e7' : g 9 = v3 := by
  rw [e5] at e7
  have h := e7.symm
  simp at h
  exact h.1
 obtain ⟨b10, eb4, hw4, _, hb4⟩ := hU.2.2.2.2.1 (hall 12 (by omega))
 have hB4 := hb4 (hall 14 (by omega))
 have e10 := hU.2.2.2.2.2 (hall 13 (by omega))
 have hQ := hU.1
 obtain ⟨a3, c3, rfl⟩ := k1.shape
 rw [e10, e7', eb4, e5, e6, e5]
 have K3 := hid k1
 have QY5 := hid (QW5.out.trans (hQ.mono QW5.out.size))
 have QA5 := hid hQ
 have HB10 := hid hB4
 clear hU Dn hall e5 e6 e7 e7' eb4 hb4 hB4 e10 hQ k1
 simp only [List.length_cons, List.length_nil, Nat.zero_add] at K3 ⊢
 have KS6 := hid (KS5.out.later QA5.out)
 clear HB10
 have HD2 := do4_any y5 (.slice a1 1 c1) KS6.out.st
 go_wp2_with fail
 refine HD2.mono ?_
 rintro _ w6 ⟨v4, rfl, k2, q4⟩
 clear HD2
 obtain ⟨a4, c4, rfl⟩ := k2.shape
 obtain ⟨W7a, hWa, h4, q5⟩ := newK1 w6
 have hi4 := chRow (doU [ac1] ch4)
 obtain ⟨W7, hWb⟩ : ∃ X, W7a.setRow w6.heap.size (chC (doU [ac1] ch4)) = X := ⟨_, rfl⟩
 have q6 : Below w6.heap.size w6 W7 := by rw [← hWb]; exact below_rowAc q5 (g := w6.heap.size) (Nat.le_refl _) _
 have K4 := hid (k2.later q6)
 have Q57 := hid (q4.trans (q6.mono q4.size))
 clear k2 q4 q5 q6
 simp only [List.length_cons, List.length_nil, Nat.zero_add] at K4 ⊢
 go_wp2_with (refine wpList_store_row rfl _ (.tmp 13) (.tmp 54) rfl _ _ rfl rfl _ _ h4 hi4.1 hi4.2.1 hi4.2.2 ?_; rw [hWb])
 clear h4 hi4 hWa hWb
 clear K4
 have QW7 := hid (QY5.out.trans (Q57.out.mono QY5.out.size))
 have HDG := hid (digest_nil W7 (HT.out.later QW7.out))
 refine HDG.out.mono ?_
 rintro _ w8 ⟨rfl, q8⟩
 have QW8 := hid (QW7.out.trans (q8.mono QW7.out.size))
 have Q58 := hid (Q57.out.trans (q8.mono Q57.out.size))
 obtain ⟨hds, hd2⟩ := sum_c0
 generalize sumS c0B = d at *
 have HDS := hid hds
 have HD2 := hid hd2
 clear q8 HDG hds hd2
 have K38 := hid (K3.out.later Q58.out)
 have Q18 := hid ((Q15.out.trans (QA5.out.mono Q15.out.size)).trans (Q58.out.mono (Q15.out.trans (QA5.out.mono Q15.out.size)).size))
 have hl8 := HLD.out w8 Q18.out
 have HFI := find_any w8 (.slice a3 1 c3) [ac3] K38.out.st atV atV_lt slots3
 rw [show findA [ac3] atV = ac3 from findA_one ac3, adC_at] at HFI
 have HFI := hid HFI
 go_wp2_with (refine wpList_load_known rfl _ (.tmp 2) rfl _ rfl _ hl8 ?_)
 refine HFI.out.mono ?_
 rintro _ w9 ⟨sv6, rfl, hrow, hwide, q9⟩
 clear HFI hl8
 have hsl6 := hrow.slots hwide
 obtain ⟨g6, c6, rfl, hc6⟩ : ∃ g c, sv6 = .slice (some ⟨g, 0, none⟩) 1 c ∧ ∀ j, j < 8 → w9.cell? ⟨g, j, none⟩ = some (.int .u64 (slP (1, 2) j)) := by
  rcases hrow.2 with ⟨rfl, h0⟩ | ⟨g, cap, cur, rfl, hbg, hg', hnc, hcm, hcs, htake⟩
  ·cases h0
  ·refine ⟨g, cap, rfl, fun j hj => ?_⟩
   have := World.ownsRow.cells hrow (g := g) rfl j (.int .u64 (slP (1, 2) j)) (by
    have h8 := flat8_at [((1, 2) : Sl)] 0 (1, 2) j rfl hj
    rw [Nat.zero_mul, Nat.zero_add] at h8
    exact h8)
   rwa [add_lit, Nat.zero_add] at this
 obtain ⟨W10a, hWa, h4, q5⟩ := newK0 w9
 have hi4 := accRow ac3 (.slice (some ⟨g6, 0, none⟩) 1 c6) rfl
 obtain ⟨W10, hWb⟩ : ∃ X, W10a.setRow w9.heap.size (acC ac3 (.slice (some ⟨g6, 0, none⟩) 1 c6)) = X := ⟨_, rfl⟩
 have h10 : Has W10 w9.heap.size 31 (acC ac3 (.slice (some ⟨g6, 0, none⟩) 1 c6)) := by rw [← hWb]; exact setRow_heap _ _ _ _ _ _ h4
 have q6 : Below w9.heap.size w9 W10 := by rw [← hWb]; exact below_rowAc q5 (g := w9.heap.size) (Nat.le_refl _) _
 have QW10 := hid ((QW8.out.trans (q9.mono QW8.out.size)).trans (q6.mono (QW8.out.trans (q9.mono QW8.out.size)).size))
 have Q8A := hid (q9.trans (q6.mono q9.size))
 have HC6 := hid (fun (X : World) (hX : Below W10.heap.size W10 X) (j : Nat) (hj : j < 8) => ((hX.cell (p := ⟨g6, j, none⟩) (by
  have := hc6 j hj
  have h1 := lt_of_cell this
  have := q6.size
  show g6 < _
  omega)).trans ((q6.cell (p := ⟨g6, j, none⟩) (lt_of_cell (hc6 j hj))).trans (hc6 j hj))))
 have HS6 := hid (hsl6.later q6)
 have H10 := hid h10
 obtain ⟨W11, hW11, h11, q11⟩ := newK0 W10
 have hl11 := (h10.later q11).accLoad
 have hst := st_one (show Has W11 W10.heap.size 31 (acC ⟨0, 0, 0, ⟨#[]⟩, []⟩ (.slice none 0 0)) by rw [acz_cells]; exact h11) acz_ok (SlotsAt.nil _)
 have HSE := set_any W11 (.slice (some ⟨W10.heap.size, 0, none⟩) 1 1) [⟨0, 0, 0, ⟨#[]⟩, []⟩] hst (by simp) (by simp) ac3 (.slice (some ⟨g6, 0, none⟩) 1 c6) ac3_ok (HS6.out.later q11) (by simp [ac3])
 rw [set_5] at HSE
 have HSE := hid HSE
 have Q11 := hid q11
 clear hrow hwide hsl6 hc6 q5 h10 q6 q9 h11 q11 hst
 go_wp2_with (first | (refine wpList_load_known rfl _ (.tmp 17) rfl _ rfl _ hl11 ?_) | (refine wpList_store_row rfl _ (.tmp 17) (.tmp 62) rfl _ _ rfl rfl _ _ h4 hi4.1 hi4.2.1 hi4.2.2 ?_; rw [hWb]) | (refine wpList_build_ac rfl (.tmp 64) rfl ⟨0, 0, 0, ⟨#[]⟩, []⟩ (.slice none 0 0) (by rw [acz_cells]; rfl) ?_; rw [acz_cells, hW11]))
 refine HSE.out.mono ?_
 rintro _ w12 ⟨v5, rfl, _, q12⟩
 clear HSE h4 hi4 hWa hWb hW11 hl11
 have QAB := hid (Q11.out.trans (q12.mono Q11.out.size))
 have QW12 := hid (QW10.out.trans (QAB.out.mono QW10.out.size))
 have Q8B := hid (Q8A.out.trans (QAB.out.mono Q8A.out.size))
 have H12 := hid (H10.out.later QAB.out)
 have x26 := H12.out.acc.2.2.2.2.2.2
 have hdb : ((d.size : Int) == 32) = true := by rw [HDS.out]; rfl
 clear q12
 go_wp2_with fail
 clear x26 hdb
 have Q5C := hid ((QA5.out.trans (Q58.out.mono QA5.out.size)).trans (Q8B.out.mono (QA5.out.trans (Q58.out.mono QA5.out.size)).size))
 have Q1C := hid (Q18.out.trans (Q8B.out.mono Q18.out.size))
 have LC4 := hid (show ∀ z : World, Grows w12 z → (loadVar 33 ⟨b4, 0, none⟩).run Tryz.prog z = .ok (.agg #[.int .i64 1, .int .u8 5, .int .u8 0, .int .u8 0, .int .u8 0, .int .u8 0, .int .u8 0, .int .u8 0, .int .u8 0, .int .u8 0, .int .u8 0, .int .u8 0, .int .u8 0, .int .u8 0, .int .u8 0, .int .u8 0, .int .u8 0, .int .u8 0, .int .u8 0, .int .u8 0, .int .u8 0, .int .u64 0, .int .u64 0, .int .u64 0, .int .u64 0, .int .u64 0, .int .u64 0, .int .u64 0, .int .u64 0, .int .i64 0, .string { data := #[] }]) z from fun z hz => by
  obtain ⟨q, rfl⟩ := hz
  have := (HB5.out.later (Q5C.out.trans (q.below.mono Q5C.out.size))).chLoad
  rwa [un1_cells] at this)
 have LAT := hid (show ∀ z : World, Grows w12 z → (loadVar 25 ⟨w.heap.size, 0, none⟩).run Tryz.prog z = .ok (.agg #[.int .u8 5, .int .u8 0, .int .u8 0, .int .u8 0, .int .u8 0, .int .u8 0, .int .u8 0, .int .u8 0, .int .u8 0, .int .u8 0, .int .u8 0, .int .u8 0, .int .u8 0, .int .u8 0, .int .u8 0, .int .u8 0, .int .u8 0, .int .u8 0, .int .u8 0, .int .u8 0]) z from fun z hz => by
  obtain ⟨q, rfl⟩ := hz
  exact HLD.out _ (Q1C.out.trans (q.below.mono Q1C.out.size)))
 have K3C := hid (K38.out.later Q8B.out)
 have K1C := hid ((KS6.out.later Q58.out).later Q8B.out)
 have x20 : ∀ z : Ext w12, z.w.cell? ⟨w9.heap.size, 20, none⟩ = some (.int .u64 5) := fun z => (H12.out.later z.below).acc.1
 have x21 : ∀ z : Ext w12, z.w.cell? ⟨w9.heap.size, 21, none⟩ = some (.int .u64 0) := fun z => (H12.out.later z.below).acc.2.1
 have x22 : ∀ z : Ext w12, z.w.cell? ⟨w9.heap.size, 22, none⟩ = some (.int .u64 0) := fun z => (H12.out.later z.below).acc.2.2.1
 have x23 : ∀ z : Ext w12, z.w.cell? ⟨w9.heap.size, 23, none⟩ = some (.int .u64 0) := fun z => (H12.out.later z.below).acc.2.2.2.1
 have x26 : ∀ z : Ext w12, z.w.cell? ⟨w9.heap.size, 26, none⟩ = some (.slice (some ⟨g6, 0, none⟩) 1 c6) := fun z => (H12.out.later z.below).acc.2.2.2.2.2.2
 have s4 : ∀ z : Ext w12, z.w.cell? ⟨g6, 4, none⟩ = some (.int .u64 2) := fun z => HC6.out z.w (QAB.out.trans (z.below.mono QAB.out.size)) 4 (by decide)
 have s5 : ∀ z : Ext w12, z.w.cell? ⟨g6, 5, none⟩ = some (.int .u64 0) := fun z => HC6.out z.w (QAB.out.trans (z.below.mono QAB.out.size)) 5 (by decide)
 have s6 : ∀ z : Ext w12, z.w.cell? ⟨g6, 6, none⟩ = some (.int .u64 0) := fun z => HC6.out z.w (QAB.out.trans (z.below.mono QAB.out.size)) 6 (by decide)
 have s7 : ∀ z : Ext w12, z.w.cell? ⟨g6, 7, none⟩ = some (.int .u64 0) := fun z => HC6.out z.w (QAB.out.trans (z.below.mono QAB.out.size)) 7 (by decide)
 have k50 : ∀ z : Ext w12, Calls Tryz.prog 27 #[.int .i64 5] z.w fun e w' => e = .returned (.agg #[.int .u64 5, .int .u64 0, .int .u64 0, .int .u64 0]) ∧ Below z.w.heap.size z.w w' := fun z => of_lit 5 z.w
 have k5 := hid (fun z : Ext w12 => Ext.at (k50 z))
 clear k50
 have k20 : ∀ z : Ext w12, Calls Tryz.prog 27 #[.int .i64 2] z.w fun e w' => e = .returned (.agg #[.int .u64 2, .int .u64 0, .int .u64 0, .int .u64 0]) ∧ Below z.w.heap.size z.w w' := fun z => of_lit 2 z.w
 have k2 := hid (fun z : Ext w12 => Ext.at (k20 z))
 clear k20
 have kE0 : ∀ z : Ext w12, Calls Tryz.prog 14 #[.agg #[.int .u8 5, .int .u8 0, .int .u8 0, .int .u8 0, .int .u8 0, .int .u8 0, .int .u8 0, .int .u8 0, .int .u8 0, .int .u8 0, .int .u8 0, .int .u8 0, .int .u8 0, .int .u8 0, .int .u8 0, .int .u8 0, .int .u8 0, .int .u8 0, .int .u8 0, .int .u8 0, .int .u64 0, .int .u64 0, .int .u64 0, .int .u64 0, .int .i64 0, .string { data := #[] }, .slice none 0 0]] z.w fun e w' => e = .returned (.bool true) ∧ Below z.w.heap.size z.w w' := fun z => by
  have := empty_any z.w ⟨atV, 0, 0, ⟨#[]⟩, []⟩ (.slice none 0 0) acat_ok (SlotsAt.nil _)
  rwa [acat_cells, empty_zero] at this
 have kE := hid (fun z : Ext w12 => Ext.at (kE0 z))
 have kR0 : ∀ z : Ext w12, Calls Tryz.prog 10 #[.slice a3 1 c3] z.w fun e w' => e = .returned (.bool true) ∧ Below z.w.heap.size z.w w' := fun z => by
  have := right_st z.w (.slice a3 1 c3) [ac3] (K3C.out.later z.below).st
  rwa [rightS_one stray3] at this
 have kR := hid (fun z : Ext w12 => Ext.at (kR0 z))
 have kS0 : ∀ z : Ext w12, Calls Tryz.prog 12 #[.slice a3 1 c3, .slice a3 1 c3] z.w fun e w' => e = .returned (.bool true) ∧ Below z.w.heap.size z.w w' := fun z => by
  have := same_st z.w _ _ [ac3] [ac3] (K3C.out.later z.below).st (K3C.out.later z.below).st
  rwa [sameS_true rfl] at this
 have kS := hid (fun z : Ext w12 => Ext.at (kS0 z))
 have kN0 : ∀ z : Ext w12, Calls Tryz.prog 12 #[.slice a1 1 c1, .slice a3 1 c3] z.w fun e w' => e = .returned (.bool false) ∧ Below z.w.heap.size z.w w' := fun z => by
  have := same_st z.w _ _ [ac1] [ac3] (K1C.out.later z.below).st (K3C.out.later z.below).st
  rwa [ac13] at this
 have kN := hid (fun z : Ext w12 => Ext.at (kN0 z))
 have hd2 := HD2.out
 have hdI : (2 : Int) ≤ (d.size : Int) := by rw [HDS.out]; decide
 have hequ := fun X : World => eq_un1 X
 clear kE0 kR0 kS0 kN0
 simp only [List.append]
 refine wp_region_quietL (C := Grows w12) hmx (by kernel_rfl) (grows_refl w12) ?_
 repeat (first | (with_reducible refine wpQuiet_load rfl 33 _ rfl _ rfl _ LC4.out ?_; simp only [Act.put, sT, sS, sZ]) | (with_reducible refine wpQuiet_load rfl 25 _ rfl _ rfl _ LAT.out ?_; simp only [Act.put, sT, sS, sZ]) | (go_big_quiet_step (first | (with_reducible exact k5.out _) | (with_reducible exact k2.out _) | (with_reducible exact kE.out _) | (with_reducible exact kR.out _) | (with_reducible exact kS.out _) | (with_reducible exact kN.out _))))
 refine wpQuiet_nil ?_
 rintro _ ⟨z, rfl⟩
 have QZ := hid (QW12.out.trans (z.below.mono QW12.out.size))
 clear x20 x21 x22 x23 x26 s4 s5 s6 s7 k5 k2 kE kR kS kN hd2 hdI hequ LC4 LAT
 go_wp2_with fail
 go_ret
 exact ⟨rfl, QZ.out⟩
end
end Go.Proofs.YtkicmbdjihjgfaaGreatDoor

/- Part. -/
import Derived.Test.YtkicmbdjihjgfaaGreatDoorH14
set_option maxRecDepth 100000
set_option maxHeartbeats 16000000
namespace Go.Proofs.YtkicmbdjihjgfaaGreatDoor
section
open Go Go.RowKit
attribute [local go_sem] Oper.semAt_some Grows wide_fn
theorem findA_ok {l : List Ac} (h : ∀ x ∈ l, AcOk x) {t : Nat} (ht : t < 256 ^ 20) : AcOk (findA l t) := by
 unfold findA
 cases hf : l.find? (fun x => decide (x.at_ = t)) with
 | none => exact ⟨ht, show W256 0 by unfold W256; decide, show I64 0 by unfold I64; decide, show (0 : Nat) ≤ 140737488355328 by decide⟩
 | some x => exact h x (List.mem_of_find?_eq_some hf)
theorem findA_slots {l : List Ac} {k : Nat} (h : ∀ x ∈ l, x.slots.length ≤ k) (t : Nat) : (findA l t).slots.length ≤ k := by
 unfold findA
 cases hf : l.find? (fun x => decide (x.at_ = t)) with
 | none => exact Nat.zero_le _
 | some x => exact h x (List.mem_of_find?_eq_some hf)
theorem findA_wide {W : World} {sv : Value} {l : List Ac} (hs : StAt W sv l) (t : Nat) : ∀ y ∈ (findA l t).slots, W256 y.1 ∧ W256 y.2 := by
 unfold findA
 cases hf : l.find? (fun x => decide (x.at_ = t)) with
 | none => intro y hy; simp at hy
 | some x =>
  obtain ⟨i, hi⟩ := List.getElem?_of_mem (List.mem_of_find?_eq_some hf)
  obtain ⟨a, cap, rfl, _, _⟩ := hs.shape
  obtain ⟨_, _, _, hx⟩ := hs.at hi
  exact hx.slots.wideAll
theorem PutS.two {W : World} {l : List Ac} {x : Ac} {e : Ending} {w' : World} (h : PutS W l x e w') : ∃ v er, e = .returned (.tuple #[v, .int .i64 er]) ∧ (er = 0 → StK w' v (putA l x)) ∧ (if mayB x = false then (1 : Int) else if (putA l x).length ≤ 200 then 0 else 2) = er ∧ Below W.heap.size W w' := by
 rcases h.1 with ⟨h1, h2⟩ | ⟨h1, h2, h3⟩ | ⟨h1, h2, v, h3, h4⟩
 ·exact ⟨_, 1, h2, fun e => absurd e (by decide), by rw [if_pos h1], h.2⟩
 ·exact ⟨_, 2, h3, fun e => absurd e (by decide), by rw [if_neg (by simp [h1]), if_neg h2], h.2⟩
 ·exact ⟨v, 0, h3, fun _ => h4, by rw [if_neg (by simp [h1]), if_pos h2], h.2⟩
theorem chgX_ok {x : Ac} {c : Ch} (hx : AcOk x) (hc : ChOk c) : AcOk (chgX x c) := by
 unfold chgX
 repeat' split
 all_goals exact ⟨hx.at_, by first | exact hc.val | exact hx.bal, by first | exact hc.non | exact hx.non, by first | exact hc.code | exact hx.code⟩
theorem chgX_slots {x : Ac} {c : Ch} (h : x.slots.length ≤ 100000) : (chgX x c).slots.length ≤ 100000 := by
 unfold chgX
 repeat' split
 all_goals first | exact h | (simp; omega) | simp
theorem chgX_wide {x : Ac} {c : Ch} (hc : ChOk c) (h : ∀ y ∈ x.slots, W256 y.1 ∧ W256 y.2) : ∀ y ∈ (chgX x c).slots, W256 y.1 ∧ W256 y.2 := by
 unfold chgX
 repeat' split
 all_goals first | exact h | exact mergeL_wide8 _ _ h (fun a ha => by simp at ha; subst ha; exact ⟨hc.key, hc.val⟩) | (intro y hy; cases hy)
noncomputable def doE (l : List Ac) (c : Ch) : Int := if rightS l = false then 1 else if chgE (findA l c.at_) c ≠ 0 then chgE (findA l c.at_) c else if mayB (chgX (findA l c.at_) c) = false then 1 else if (putA l (chgX (findA l c.at_) c)).length ≤ 200 then 0 else 2
def UD (W : World) (B0 B1 : Nat) (c : Ch) (xF x' : Ac) (u : Ch) (er : Int) (f : Nat → Bool) (g : Nat → Value) (w : World) : Prop :=
 Below W.heap.size W w ∧ Has w B0 33 (chC c) ∧ Has w B1 33 #[.int .i64 0, .int .u8 0, .int .u8 0, .int .u8 0, .int .u8 0, .int .u8 0, .int .u8 0, .int .u8 0, .int .u8 0, .int .u8 0, .int .u8 0, .int .u8 0, .int .u8 0, .int .u8 0, .int .u8 0, .int .u8 0, .int .u8 0, .int .u8 0, .int .u8 0, .int .u8 0, .int .u8 0, .int .u64 0, .int .u64 0, .int .u64 0, .int .u64 0, .int .u64 0, .int .u64 0, .int .u64 0, .int .u64 0, .int .i64 0, .string { data := #[] }] ∧
 (f 3 = true → ∃ sv, g 3 = .agg (acC xF sv) ∧ KeepS w sv xF.slots) ∧
 (f 5 = true → ∃ sv, sv.oneCell' = true ∧ g 5 = .tuple #[.agg (acC x' sv), .agg (chC u), .int .i64 er] ∧ KeepS w sv x'.slots) ∧
 (f 6 = true → g 6 = g 5) ∧ (f 7 = true → ∃ a b, g 5 = .tuple #[g 7, a, b]) ∧
 (f 10 = true → ∃ b, g 10 = .pointer (some ⟨b, 0, none⟩) ∧ W.heap.size ≤ b ∧ (f 12 = false → Has w b 31 #[.int .u8 0, .int .u8 0, .int .u8 0, .int .u8 0, .int .u8 0, .int .u8 0, .int .u8 0, .int .u8 0, .int .u8 0, .int .u8 0, .int .u8 0, .int .u8 0, .int .u8 0, .int .u8 0, .int .u8 0, .int .u8 0, .int .u8 0, .int .u8 0, .int .u8 0, .int .u8 0, .int .u64 0, .int .u64 0, .int .u64 0, .int .u64 0, .int .i64 0, .string { data := #[] }, .slice none 0 0]) ∧ (f 12 = true → ∃ sv, g 7 = .agg (acC x' sv) ∧ Has w b 31 (acC x' sv))) ∧
 (f 11 = true → ∃ b, g 11 = .pointer (some ⟨b, 0, none⟩) ∧ W.heap.size ≤ b ∧ b ≠ B1 ∧ b ≠ B0 ∧ (f 13 = false → Has w b 33 #[.int .i64 0, .int .u8 0, .int .u8 0, .int .u8 0, .int .u8 0, .int .u8 0, .int .u8 0, .int .u8 0, .int .u8 0, .int .u8 0, .int .u8 0, .int .u8 0, .int .u8 0, .int .u8 0, .int .u8 0, .int .u8 0, .int .u8 0, .int .u8 0, .int .u8 0, .int .u8 0, .int .u8 0, .int .u64 0, .int .u64 0, .int .u64 0, .int .u64 0, .int .u64 0, .int .u64 0, .int .u64 0, .int .u64 0, .int .i64 0, .string { data := #[] }]) ∧ (f 13 = true → Has w b 33 (chC u)))
section
variable {W : World} {B0 B1 : Nat} {c : Ch} {xF x' : Ac} {u : Ch} {er : Int} {f : Nat → Bool} {g : Nat → Value} {w w' : World}
theorem UD.later (h : UD W B0 B1 c xF x' u er f g w) (hb : Below w.heap.size w w') : UD W B0 B1 c xF x' u er f g w' := by
 obtain ⟨h1, h2, h3, h4, h5, h6, h7, h8, h9⟩ := h
 refine ⟨h1.trans (hb.mono h1.size), h2.later hb, h3.later hb, fun e => ?_, fun e => ?_, h6, h7, fun e => ?_, fun e => ?_⟩
 ·obtain ⟨sv, e1, e2⟩ := h4 e; exact ⟨sv, e1, e2.later hb⟩
 ·obtain ⟨sv, e0, e1, e2⟩ := h5 e; exact ⟨sv, e0, e1, e2.later hb⟩
 ·obtain ⟨b, e1, e2, e3, e4⟩ := h8 e
  exact ⟨b, e1, e2, fun k => (e3 k).later hb, fun k => let ⟨sv, k1, k2⟩ := e4 k; ⟨sv, k1, k2.later hb⟩⟩
 ·obtain ⟨b, e1, e2, e3, e4, e5, e6⟩ := h9 e
  exact ⟨b, e1, e2, e3, e4, fun k => (e5 k).later hb, fun k => (e6 k).later hb⟩
theorem UD.same {f' : Nat → Bool} {g' : Nat → Value} (h : UD W B0 B1 c xF x' u er f g w) (hh : ∀ j, j = 3 ∨ j = 5 ∨ j = 6 ∨ j = 7 ∨ j = 10 ∨ j = 11 ∨ j = 12 ∨ j = 13 → f j = f' j ∧ g j = g' j) : UD W B0 B1 c xF x' u er f' g' w := by
 unfold UD at h ⊢
 rwa [(hh 3 (by omega)).1, (hh 3 (by omega)).2, (hh 5 (by omega)).1, (hh 5 (by omega)).2, (hh 6 (by omega)).1, (hh 6 (by omega)).2, (hh 7 (by omega)).1, (hh 7 (by omega)).2, (hh 10 (by omega)).1, (hh 10 (by omega)).2, (hh 11 (by omega)).1, (hh 11 (by omega)).2, (hh 12 (by omega)).1, (hh 13 (by omega)).1] at h
theorem UD.found (h : UD W B0 B1 c xF x' u er f g w) (hb : Below w.heap.size w w') {sv : Value} (hk : KeepS w' sv xF.slots) : UD W B0 B1 c xF x' u er (upd f 3 true) (upd g 3 (.agg (acC xF sv))) w' := by
 obtain ⟨h1, h2, h3, h4, h5, h6, h7, h8, h9⟩ := h.later hb
 exact ⟨h1, h2, h3, fun _ => ⟨sv, by simp [upd], hk⟩, by simpa [upd] using h5, by simpa [upd] using h6, by simpa [upd] using h7, by simpa [upd] using h8, by simpa [upd] using h9⟩
theorem UD.chg (h : UD W B0 B1 c xF x' u er f g w) (hb : Below w.heap.size w w') (f6 : f 6 = false) (f7 : f 7 = false) {sv : Value} (ho : sv.oneCell' = true) (hk : KeepS w' sv x'.slots) : UD W B0 B1 c xF x' u er (upd f 5 true) (upd g 5 (.tuple #[.agg (acC x' sv), .agg (chC u), .int .i64 er])) w' := by
 obtain ⟨h1, h2, h3, h4, h5, h6, h7, h8, h9⟩ := h.later hb
 exact ⟨h1, h2, h3, by simpa [upd] using h4, fun _ => ⟨sv, ho, by simp [upd], hk⟩, by simp [upd, f6], by simp [upd, f7], by simpa [upd] using h8, by simpa [upd] using h9⟩
theorem UD.move (h : UD W B0 B1 c xF x' u er f g w) : UD W B0 B1 c xF x' u er (upd f 6 true) (upd g 6 (g 5)) w := by
 obtain ⟨h1, h2, h3, h4, h5, h6, h7, h8, h9⟩ := h
 exact ⟨h1, h2, h3, by simpa [upd] using h4, by simpa [upd] using h5, by simp [upd], by simpa [upd] using h7, by simpa [upd] using h8, by simpa [upd] using h9⟩
theorem UD.ext (h : UD W B0 B1 c xF x' u er f g w) (f12 : f 12 = false) {v a b : Value} (e : g 5 = .tuple #[v, a, b]) : UD W B0 B1 c xF x' u er (upd f 7 true) (upd g 7 v) w := by
 obtain ⟨h1, h2, h3, h4, h5, h6, h7, h8, h9⟩ := h
 exact ⟨h1, h2, h3, by simpa [upd] using h4, by simpa [upd] using h5, by simpa [upd] using h6, fun _ => ⟨a, b, by simpa [upd] using e⟩, by simpa [upd, f12] using h8, by simpa [upd] using h9⟩
theorem UD.boxA (h : UD W B0 B1 c xF x' u er f g w) (f12 : f 12 = false) : UD W B0 B1 c xF x' u er (upd f 10 true) (upd g 10 (.pointer (some ⟨w.heap.size, 0, none⟩))) (w.alloc (.cells #[.int .u8 0, .int .u8 0, .int .u8 0, .int .u8 0, .int .u8 0, .int .u8 0, .int .u8 0, .int .u8 0, .int .u8 0, .int .u8 0, .int .u8 0, .int .u8 0, .int .u8 0, .int .u8 0, .int .u8 0, .int .u8 0, .int .u8 0, .int .u8 0, .int .u8 0, .int .u8 0, .int .u64 0, .int .u64 0, .int .u64 0, .int .u64 0, .int .i64 0, .string { data := #[] }, .slice none 0 0] 31)) := by
 obtain ⟨h1, h2, h3, h4, h5, h6, h7, h8, h9⟩ := h.later (newA w (.cells #[.int .u8 0, .int .u8 0, .int .u8 0, .int .u8 0, .int .u8 0, .int .u8 0, .int .u8 0, .int .u8 0, .int .u8 0, .int .u8 0, .int .u8 0, .int .u8 0, .int .u8 0, .int .u8 0, .int .u8 0, .int .u8 0, .int .u8 0, .int .u8 0, .int .u8 0, .int .u8 0, .int .u64 0, .int .u64 0, .int .u64 0, .int .u64 0, .int .i64 0, .string { data := #[] }, .slice none 0 0] 31))
 exact ⟨h1, h2, h3, by simpa [upd] using h4, by simpa [upd] using h5, by simpa [upd] using h6, by simpa [upd] using h7, fun _ => ⟨w.heap.size, by simp [upd], h.1.size, fun _ => Has.new w 31 #[.int .u8 0, .int .u8 0, .int .u8 0, .int .u8 0, .int .u8 0, .int .u8 0, .int .u8 0, .int .u8 0, .int .u8 0, .int .u8 0, .int .u8 0, .int .u8 0, .int .u8 0, .int .u8 0, .int .u8 0, .int .u8 0, .int .u8 0, .int .u8 0, .int .u8 0, .int .u8 0, .int .u64 0, .int .u64 0, .int .u64 0, .int .u64 0, .int .i64 0, .string { data := #[] }, .slice none 0 0], fun k => by simp [upd, f12] at k⟩, by simpa [upd] using h9⟩
theorem UD.boxC (h : UD W B0 B1 c xF x' u er f g w) (f13 : f 13 = false) : UD W B0 B1 c xF x' u er (upd f 11 true) (upd g 11 (.pointer (some ⟨w.heap.size, 0, none⟩))) (w.alloc (.cells #[.int .i64 0, .int .u8 0, .int .u8 0, .int .u8 0, .int .u8 0, .int .u8 0, .int .u8 0, .int .u8 0, .int .u8 0, .int .u8 0, .int .u8 0, .int .u8 0, .int .u8 0, .int .u8 0, .int .u8 0, .int .u8 0, .int .u8 0, .int .u8 0, .int .u8 0, .int .u8 0, .int .u8 0, .int .u64 0, .int .u64 0, .int .u64 0, .int .u64 0, .int .u64 0, .int .u64 0, .int .u64 0, .int .u64 0, .int .i64 0, .string { data := #[] }] 33)) := by
 obtain ⟨h1, h2, h3, h4, h5, h6, h7, h8, h9⟩ := h.later (newA w (.cells #[.int .i64 0, .int .u8 0, .int .u8 0, .int .u8 0, .int .u8 0, .int .u8 0, .int .u8 0, .int .u8 0, .int .u8 0, .int .u8 0, .int .u8 0, .int .u8 0, .int .u8 0, .int .u8 0, .int .u8 0, .int .u8 0, .int .u8 0, .int .u8 0, .int .u8 0, .int .u8 0, .int .u8 0, .int .u64 0, .int .u64 0, .int .u64 0, .int .u64 0, .int .u64 0, .int .u64 0, .int .u64 0, .int .u64 0, .int .i64 0, .string { data := #[] }] 33))
 exact ⟨h1, h2, h3, by simpa [upd] using h4, by simpa [upd] using h5, by simpa [upd] using h6, by simpa [upd] using h7, by simpa [upd] using h8, fun _ => ⟨w.heap.size, by simp [upd], h.1.size, (fun e => by have := h.2.2.1.lt; omega), (fun e => by have := h.2.1.lt; omega), fun _ => Has.new w 33 #[.int .i64 0, .int .u8 0, .int .u8 0, .int .u8 0, .int .u8 0, .int .u8 0, .int .u8 0, .int .u8 0, .int .u8 0, .int .u8 0, .int .u8 0, .int .u8 0, .int .u8 0, .int .u8 0, .int .u8 0, .int .u8 0, .int .u8 0, .int .u8 0, .int .u8 0, .int .u8 0, .int .u8 0, .int .u64 0, .int .u64 0, .int .u64 0, .int .u64 0, .int .u64 0, .int .u64 0, .int .u64 0, .int .u64 0, .int .i64 0, .string { data := #[] }], fun k => by simp [upd, f13] at k⟩⟩
theorem has_other {w : World} {B C : Nat} {t : TypeId} {cs : Array Value} (h : Has w C t cs) (hne : C ≠ B) (u : Array Value) : Has (w.setRow B u) C t cs := (setRow_other w B C u hne).trans h
theorem has_kind {w : World} {B C : Nat} {t s : TypeId} {cs ds : Array Value} (h : Has w C t cs) (h' : Has w B s ds) (hne : t ≠ s) : C ≠ B := fun e => by
 subst e
 have := h.symm.trans h'
 injection this with this
 injection this with _ this _
 exact hne this
theorem UD.rowA (h : UD W B0 B1 c xF x' u er f g w) (f10 : f 10 = true) (f11 : f 11 = true) (f12 : f 12 = false) (f13 : f 13 = false) {b : Nat} (eb : g 10 = .pointer (some ⟨b, 0, none⟩)) {sv : Value} (e7 : g 7 = .agg (acC x' sv)) (v : Value) : UD W B0 B1 c xF x' u er (upd f 12 true) (upd g 12 v) (w.setRow b (acC x' sv)) := by
 obtain ⟨h1, h2, h3, h4, h5, h6, h7, h8, h9⟩ := h
 obtain ⟨b', e1, e2, e3, e4⟩ := h8 f10
 rw [eb] at e1
 injection e1 with e1
 injection e1 with e1
 injection e1 with e1 _ _
 subst e1
 have hz := e3 f12
 refine ⟨below_rowAc h1 e2 _, has_other h2 (has_kind h2 hz (by decide)) _, has_other h3 (has_kind h3 hz (by decide)) _, fun k => ?_, fun k => ?_, by simpa [upd] using h6, by simpa [upd] using h7, fun _ => ⟨b, by simpa [upd] using eb, e2, fun k => by simp [upd] at k, fun _ => ⟨sv, by simpa [upd] using e7, setRow_heap _ _ _ _ _ _ hz⟩⟩, fun k => ?_⟩
 ·obtain ⟨s, k1, k2⟩ := h4 (by simpa [upd] using k)
  exact ⟨s, by simpa [upd] using k1, k2.row hz (by decide) _⟩
 ·obtain ⟨s, k0, k1, k2⟩ := h5 (by simpa [upd] using k)
  exact ⟨s, k0, by simpa [upd] using k1, k2.row hz (by decide) _⟩
 ·obtain ⟨d, k1, k2, k3, k4, k5, k6⟩ := h9 f11
  exact ⟨d, by simpa [upd] using k1, k2, k3, k4, fun _ => has_other (k5 f13) (has_kind (k5 f13) hz (by decide)) _, fun k => by simp [upd, f13] at k⟩
theorem UD.rowC (h : UD W B0 B1 c xF x' u er f g w) (f10 : f 10 = true) (f11 : f 11 = true) (f12 : f 12 = true) (f13 : f 13 = false) {b : Nat} (eb : g 11 = .pointer (some ⟨b, 0, none⟩)) (v : Value) : UD W B0 B1 c xF x' u er (upd f 13 true) (upd g 13 v) (w.setRow b (chC u)) := by
 obtain ⟨h1, h2, h3, h4, h5, h6, h7, h8, h9⟩ := h
 obtain ⟨b', e1, e2, e3, e4, e5, e6⟩ := h9 f11
 rw [eb] at e1
 injection e1 with e1
 injection e1 with e1
 injection e1 with e1 _ _
 subst e1
 have hz := e5 f13
 refine ⟨below_rowAc h1 e2 _, has_other h2 e4.symm _, has_other h3 e3.symm _, fun k => ?_, fun k => ?_, by simpa [upd] using h6, by simpa [upd] using h7, fun k => ?_, fun _ => ⟨b, by simpa [upd] using eb, e2, e3, e4, fun k => by simp [upd] at k, fun _ => setRow_heap _ _ _ _ _ _ hz⟩⟩
 ·obtain ⟨s, k1, k2⟩ := h4 (by simpa [upd] using k)
  exact ⟨s, by simpa [upd] using k1, k2.row hz (by decide) _⟩
 ·obtain ⟨s, k0, k1, k2⟩ := h5 (by simpa [upd] using k)
  exact ⟨s, k0, by simpa [upd] using k1, k2.row hz (by decide) _⟩
 ·obtain ⟨d, k1, k2, k3, k4⟩ := h8 f10
  obtain ⟨s, k5, k6⟩ := k4 f12
  exact ⟨d, by simpa [upd] using k1, k2, fun k => by simp [upd, f12] at k, fun _ => ⟨s, by simpa [upd] using k5, has_other k6 (has_kind k6 hz (by decide)) _⟩⟩
end
theorem results_three {fn : Func} {t4 t5 t6 : Tmp} {tmps : Array Value} {W : World} {B : Nat} {v v' : Value} {u : Ch} (h : fn.results = #[ResultVar.tmp t4, ResultVar.cell t5 33, ResultVar.tmp t6]) (h4 : tmps.getD t4 undef = v) (h5 : tmps.getD t5 undef = .pointer (some ⟨B, 0, none⟩)) (h6 : tmps.getD t6 undef = v') (hB : Has W B 33 (chC u)) :
  (results fn tmps).run Tryz.prog W = .ok (.tuple #[v, .agg (chC u), v']) W := by
 simp at h4 h5 h6
 simp [results, h, h4, h5, h6, asAddr, hB.chLoad]
def zeroC : Ch := ⟨0, 0, 0, 0, 0, ⟨#[]⟩⟩
theorem zeroC_cells : chC zeroC = #[.int .i64 0, .int .u8 0, .int .u8 0, .int .u8 0, .int .u8 0, .int .u8 0, .int .u8 0, .int .u8 0, .int .u8 0, .int .u8 0, .int .u8 0, .int .u8 0, .int .u8 0, .int .u8 0, .int .u8 0, .int .u8 0, .int .u8 0, .int .u8 0, .int .u8 0, .int .u8 0, .int .u8 0, .int .u64 0, .int .u64 0, .int .u64 0, .int .u64 0, .int .u64 0, .int .u64 0, .int .u64 0, .int .u64 0, .int .i64 0, .string { data := #[] }] := by
 unfold zeroC chC chL chT
 simp only [lim_zero]
 rfl
theorem done_any (W : World) (sv : Value) (l : List Ac) (hs : StAt W sv l) (hl : l.length ≤ 99000) (hsl : ∀ y ∈ l, y.slots.length ≤ 100000) (c : Ch) (hc : ChOk c) :
  Calls Tryz.prog 40 #[sv, .agg (chC c)] W fun e w' => ∃ v cu, e = .returned (.tuple #[v, .agg (chC cu), .int .i64 (doE l c)]) ∧ (doE l c = 0 → cu = chgU (findA l c.at_) c ∧ StK w' v (putA l (chgX (findA l c.at_) c))) ∧ Below W.heap.size W w' := by
 have hmx : Tryz.prog.follows .mixedOrders = true := by kernel_rfl
 obtain ⟨Post, hPost⟩ : ∃ Post : Ending → World → Prop, (fun (e : Ending) (w' : World) => ∃ v cu, e = .returned (.tuple #[v, .agg (chC cu), .int .i64 (doE l c)]) ∧ (doE l c = 0 → cu = chgU (findA l c.at_) c ∧ StK w' v (putA l (chgX (findA l c.at_) c))) ∧ Below W.heap.size W w') = Post := ⟨_, rfl⟩
 have HF0 := hid (show ∀ w' v er, doE l c = er → er ≠ 0 → Below W.heap.size W w' → Post (.returned (.tuple #[v, .agg #[.int .i64 0, .int .u8 0, .int .u8 0, .int .u8 0, .int .u8 0, .int .u8 0, .int .u8 0, .int .u8 0, .int .u8 0, .int .u8 0, .int .u8 0, .int .u8 0, .int .u8 0, .int .u8 0, .int .u8 0, .int .u8 0, .int .u8 0, .int .u8 0, .int .u8 0, .int .u8 0, .int .u8 0, .int .u64 0, .int .u64 0, .int .u64 0, .int .u64 0, .int .u64 0, .int .u64 0, .int .u64 0, .int .u64 0, .int .i64 0, .string { data := #[] }], .int .i64 er])) w' from fun w' v er e1 h1 h2 => by
  rw [← hPost, ← zeroC_cells]
  subst e1
  exact ⟨_, _, rfl, fun h => absurd h h1, h2⟩)
 have HF1 := hid (show ∀ w' v er, doE l c = er → (er = 0 → StK w' v (putA l (chgX (findA l c.at_) c))) → Below W.heap.size W w' → Post (.returned (.tuple #[v, .agg (chC (chgU (findA l c.at_) c)), .int .i64 er])) w' from fun w' v er e1 h1 h2 => by
  rw [← hPost]
  subst e1
  exact ⟨_, _, rfl, fun h => ⟨rfl, h1 h⟩, h2⟩)
 rw [hPost]
 clear hPost
 have HOKF := hid (findA_ok (t := c.at_) (fun x hx => by
  obtain ⟨i, hi⟩ := List.getElem?_of_mem hx
  exact hs.ok hi) hc.at_)
 have HSF := hid (findA_slots hsl c.at_)
 have HWF := hid (findA_wide hs c.at_)
 obtain ⟨cc, hcc⟩ : ∃ cc, chC c = cc := ⟨_, rfl⟩
 rw [hcc]
 have h10 := Has.new W 33 cc
 have q1 := newA W (.cells cc 33)
 obtain ⟨W1, hW1⟩ : ∃ W1, W.alloc (.cells cc 33) = W1 := ⟨_, rfl⟩
 rw [hW1] at h10 q1
 obtain ⟨W2, hW2, h21, q2⟩ := newK1 W1
 have HLT := hid (show W.heap.size < W1.heap.size from h10.lt)
 have QW2 := hid (q1.trans (q2.mono q1.size))
 have HC := hid (show Has W2 W.heap.size 33 (chC c) by rw [hcc]; exact h10.later q2)
 have HZ := hid h21
 obtain ⟨a, cap, rfl, hnc, hcm⟩ := hs.shape
 have HS := hid hs
 have HL := hid hl
 have HSL := hid hsl
 have HCO := hid hc
 have HRI := hid (right_st W2 (.slice a l.length cap) l (hs.later QW2.out))
 obtain ⟨n, hn⟩ : ∃ n, l.length = n := ⟨_, rfl⟩
 rw [hn] at HS HRI ⊢
 have HN := hid hn
 have HCC := hid hcc
 clear h10 q1 h21 q2 hs hl hsl hc hnc hcm hn hcc
 have HR := hid (show rightS l = rightS l from rfl)
 go_enter Tryz.func40, Tryz.ntmps40
 go_wp2_with fail
 clear hW1 hW2
 refine HRI.out.mono ?_
 rintro _ w1 ⟨rfl, q1⟩
 have Q1 := hid (QW2.out.trans (q1.mono QW2.out.size))
 have HC1 := hid (HC.out.later q1)
 have hz1 := HZ.out.later q1
 have HZ1 := hid hz1
 clear q1 HRI HC HZ QW2
 have hi : (Tryz.prog.info? 33).map (·.size) = some (#[.int .i64 0, .int .u8 0, .int .u8 0, .int .u8 0, .int .u8 0, .int .u8 0, .int .u8 0, .int .u8 0, .int .u8 0, .int .u8 0, .int .u8 0, .int .u8 0, .int .u8 0, .int .u8 0, .int .u8 0, .int .u8 0, .int .u8 0, .int .u8 0, .int .u8 0, .int .u8 0, .int .u8 0, .int .u64 0, .int .u64 0, .int .u64 0, .int .u64 0, .int .u64 0, .int .u64 0, .int .u64 0, .int .u64 0, .int .i64 0, .string { data := #[] }] : Array Value).size := infoCh
 have ha : (#[.int .i64 0, .int .u8 0, .int .u8 0, .int .u8 0, .int .u8 0, .int .u8 0, .int .u8 0, .int .u8 0, .int .u8 0, .int .u8 0, .int .u8 0, .int .u8 0, .int .u8 0, .int .u8 0, .int .u8 0, .int .u8 0, .int .u8 0, .int .u8 0, .int .u8 0, .int .u8 0, .int .u8 0, .int .u64 0, .int .u64 0, .int .u64 0, .int .u64 0, .int .u64 0, .int .u64 0, .int .u64 0, .int .u64 0, .int .i64 0, .string { data := #[] }] : Array Value).all (·.oneCell') = true := by rw [← zeroC_cells]; exact chC_one _
 by_cases hr : rightS l = true
 ·rw [hr]
  have HUP := hid (show Ups l by
   unfold rightS at hr
   simp only [Bool.and_eq_true] at hr
   exact (upsB_iff l).1 hr.2.1)
  have HRT := hid hr
  clear hr
  go_wp2_with fail
  refine Late.wp_region_ghost [some (.slice a n cap), some (.pointer (some ⟨W.heap.size, 1, none⟩)), some (.agg (adC c.at_)), none, some (.agg (chC c)), none, none, none, some (.agg (chC (chgU (findA l c.at_) c))), some (.int .i64 (chgE (findA l c.at_) c)), none, none, none, none, some (.int .i64 (chgE (findA l c.at_) c))] [[], [], [1], [0, 1, 2], [], [0, 1, 2, 3, 4], [0, 1, 2, 3, 4, 5], [0, 1, 2, 3, 4, 5, 6], [0, 1, 2, 3, 4, 5, 6], [0, 1, 2, 3, 4, 5, 6], [], [], [0, 1, 2, 3, 4, 5, 6, 7, 10, 11], [0, 1, 2, 3, 4, 5, 6, 7, 8, 10, 11, 12], [0, 1, 2, 3, 4, 5, 6, 7, 8, 9, 10, 11, 12, 13]] (UD W W.heap.size W1.heap.size c (findA l c.at_) (chgX (findA l c.at_) c) (chgU (findA l c.at_) c) (chgE (findA l c.at_) c)) hmx (by kernel_rfl) (by kernel_rfl) (fun f g wa wb h hb => h.later hb) (fun f f' g g' wa h => fun hh => hh.same (fun j hj => h j (by rcases hj with rfl | rfl | rfl | rfl | rfl | rfl | rfl | rfl <;> rfl))) ?_ ?_
  ·exact UD.later (show UD W W.heap.size W1.heap.size c (findA l c.at_) (chgX (findA l c.at_) c) (chgU (findA l c.at_) c) (chgE (findA l c.at_) c) (fun _ => false) (fun _ => undef) w1 from ⟨Q1.out, HC1.out, HZ1.out, fun h => absurd h (by simp), fun h => absurd h (by simp), fun h => absurd h (by simp), fun h => absurd h (by simp), fun h => absurd h (by simp), fun h => absurd h (by simp)⟩) ((Below.refl _ _).drew)
  rintro f g y hU Dn
  refine GW.known _ rfl (fun hd hf => ?_) ?_
  ·clear hU Dn hd
   go_wp2_with fail
   exact ⟨rfl, rfl, Below.refl _ _⟩
  simp only [Act.put, sT, sS, sZ]
  refine GW.known _ rfl (fun hd hf => ?_) ?_
  ·clear hU Dn hd
   go_wp2_with fail
   exact ⟨rfl, rfl, Below.refl _ _⟩
  simp only [Act.put, sT, sS, sZ]
  refine GW.known _ rfl (fun hd hf => ?_) ?_
  ·have hl := hU.2.1.chAdLoad
   clear hU Dn hd
   go_wp2_with (refine wpList_load_known rfl _ (.tmp 17) rfl _ rfl _ hl ?_)
   exact ⟨rfl, rfl, Below.refl _ _⟩
  simp only [Act.put, sT, sS, sZ]
  refine GW.open rfl (fun hd hf => ?_) ?_
  ·have HFI := find_any y (.slice a n cap) l (HS.out.later hU.1) c.at_ HCO.out.at_ HSL.out
   have hfin := fun (w' : World) (sv : Value) (hb : Below y.heap.size y w') (hk : KeepS w' sv (findA l c.at_).slots) => hU.found hb hk
   clear hU Dn hd
   go_wp2_with fail
   refine HFI.mono ?_
   rintro e u ⟨sv', rfl, hrow, _, hb⟩
   have hfin' := hfin u sv' hb ⟨_, hrow⟩
   clear hfin HFI hrow hb
   go_wp2
   exact ⟨rfl, hfin'⟩
  simp only [Act.put, sT, sS, sZ]
  refine GW.known _ rfl (fun hd hf => ?_) ?_
  ·have hl := hU.2.1.chLoad
   clear hU Dn hd
   go_wp2_with (refine wpList_load_known rfl _ (.tmp 3) rfl _ rfl _ hl ?_)
   exact ⟨rfl, rfl, Below.refl _ _⟩
  simp only [Act.put, sT, sS, sZ]
  refine GW.open rfl (fun hd hf => ?_) ?_
  ·obtain ⟨sv3, e3, k3⟩ := hU.2.2.2.1 (hd 3 (by decide))
   have f6 : f 6 = false := (by cases h : f 6 with | false => rfl | true => exact absurd (Dn 6 h 5 (by decide)) (by rw [hf]; simp))
   have f7 : f 7 = false := (by cases h : f 7 with | false => rfl | true => exact absurd (Dn 7 h 5 (by decide)) (by rw [hf]; simp))
   have HCH := changed_any y (findA l c.at_) sv3 HOKF.out k3 HWF.out c HCO.out
   have hfin := fun (w' : World) (sv : Value) (hb : Below y.heap.size y w') (ho : sv.oneCell' = true) (hk : KeepS w' sv (chgX (findA l c.at_) c).slots) => hU.chg hb f6 f7 ho hk
   rw [e3]
   clear hU Dn hd e3 k3 f6 f7
   go_wp2_with fail
   refine HCH.mono ?_
   rintro e u ⟨sv', rfl, hk, hb⟩
   have hfin' := hfin u sv' hb (by obtain ⟨_, h⟩ := hk; obtain ⟨_, _, rfl⟩ := h.shape; rfl) hk
   clear hfin HCH hk hb
   go_wp2
   exact ⟨rfl, hfin'⟩
  simp only [Act.put, sT, sS, sZ]
  refine GW.open rfl (fun hd hf => ?_) ?_
  ·have hm := hU.move
   clear hU Dn hd
   go_wp2
   exact ⟨rfl, hm⟩
  simp only [Act.put, sT, sS, sZ]
  refine GW.open rfl (fun hd hf => ?_) ?_
  ·obtain ⟨sv5, ho5, e5, k5⟩ := hU.2.2.2.2.1 (hd 5 (by decide))
   have e6 := hU.2.2.2.2.2.1 (hd 6 (by decide))
   have f12 : f 12 = false := (by cases h : f 12 with | false => rfl | true => exact absurd (Dn 12 h 7 (by decide)) (by rw [hf]; simp))
   have hm := hU.ext f12 e5
   rw [e6, e5]
   clear hU Dn hd e6 e5 k5
   go_wp2
   exact ⟨rfl, hm⟩
  simp only [Act.put, sT, sS, sZ]
  refine GW.known _ rfl (fun hd hf => ?_) ?_
  ·obtain ⟨sv5, ho5, e5, k5⟩ := hU.2.2.2.2.1 (hd 5 (by decide))
   have e6 := hU.2.2.2.2.2.1 (hd 6 (by decide))
   rw [e6, e5]
   clear hU Dn hd e6 e5 k5
   go_wp2
   exact ⟨rfl, rfl, Below.refl _ _⟩
  simp only [Act.put, sT, sS, sZ]
  refine GW.known _ rfl (fun hd hf => ?_) ?_
  ·obtain ⟨sv5, ho5, e5, k5⟩ := hU.2.2.2.2.1 (hd 5 (by decide))
   have e6 := hU.2.2.2.2.2.1 (hd 6 (by decide))
   rw [e6, e5]
   clear hU Dn hd e6 e5 k5
   go_wp2
   exact ⟨rfl, rfl, Below.refl _ _⟩
  simp only [Act.put, sT, sS, sZ]
  refine GW.open rfl (fun hd hf => ?_) ?_
  ·have f12 : f 12 = false := (by cases h : f 12 with | false => rfl | true => exact absurd (Dn 12 h 10 (by decide)) (by rw [hf]; simp))
   have hm := hU.boxA f12
   clear hU Dn hd f12
   go_wp2
   exact ⟨rfl, hm⟩
  simp only [Act.put, sT, sS, sZ]
  refine GW.open rfl (fun hd hf => ?_) ?_
  ·have f13 : f 13 = false := (by cases h : f 13 with | false => rfl | true => exact absurd (Dn 13 h 11 (by decide)) (by rw [hf]; simp))
   have hm := hU.boxC f13
   clear hU Dn hd f13
   go_wp2
   exact ⟨rfl, hm⟩
  simp only [Act.put, sT, sS, sZ]
  refine GW.open rfl (fun hd hf => ?_) ?_
  ·obtain ⟨sv5, ho5, e5, k5⟩ := hU.2.2.2.2.1 (hd 5 (by decide))
   obtain ⟨p7, q7, e7⟩ := hU.2.2.2.2.2.2.1 (hd 7 (by decide))
   have e7' : g 7 = .agg (acC (chgX (findA l c.at_) c) sv5) := by
    rw [e5] at e7
    have h := e7.symm
    simp at h
    exact h.1
   obtain ⟨b, eb, hwb, hz, _⟩ := hU.2.2.2.2.2.2.2.1 (hd 10 (by decide))
   have f13 : f 13 = false := (by cases h : f 13 with | false => rfl | true => exact absurd (Dn 13 h 12 (by decide)) (by rw [hf]; simp))
   have hz' := hz hf
   have hm := fun v => hU.rowA (hd 10 (by decide)) (hd 11 (by decide)) hf f13 eb e7' v
   have hi7 := accRow (chgX (findA l c.at_) c) sv5 ho5
   rw [eb, e7']
   clear hU Dn hd f13 e7 e5 k5 hz e7' eb
   go_wp2_with (refine wpList_store_row rfl _ (.tmp 7) (.tmp 22) rfl _ _ rfl rfl _ _ hz' hi7.1 hi7.2.1 hi7.2.2 ?_)
   exact ⟨rfl, hm _⟩
  simp only [Act.put]
  refine GW.open rfl (fun hd hf => ?_) ?_
  ·obtain ⟨b, eb, hwb, _, _, hz, _⟩ := hU.2.2.2.2.2.2.2.2 (hd 11 (by decide))
   have hz' := hz hf
   have hm := fun v => hU.rowC (hd 10 (by decide)) (hd 11 (by decide)) (hd 12 (by decide)) hf eb v
   have hi7 := chRow (chgU (findA l c.at_) c)
   rw [eb]
   clear hU Dn hd hz eb
   go_wp2_with (refine wpList_store_row rfl _ (.tmp 8) (.tmp 23) rfl _ _ rfl rfl _ _ hz' hi7.1 hi7.2.1 hi7.2.2 ?_)
   exact ⟨rfl, hm _⟩
  simp only [Act.put]
  refine GW.known _ rfl (fun hd hf => ?_) ?_
  ·clear hU Dn hd
   go_wp2_with fail
   exact ⟨rfl, rfl, Below.refl _ _⟩
  simp only [Act.put, sT, sS, sZ]
  refine GW.nil (fun hall => ?_)
  obtain ⟨sv5, ho5, e5, k5⟩ := hU.2.2.2.2.1 (hall 5 (by omega))
  obtain ⟨b, eb, hwb, _, hb12⟩ := hU.2.2.2.2.2.2.2.1 (hall 10 (by omega))
  obtain ⟨sv7, e7, hBX⟩ := hb12 (hall 12 (by omega))
  obtain ⟨d, ed, hwd, hd1, hd0, _, hd13⟩ := hU.2.2.2.2.2.2.2.2 (hall 11 (by omega))
  have hBC := hd13 (hall 13 (by omega))
  obtain ⟨p7, q7, e75⟩ := hU.2.2.2.2.2.2.1 (hall 7 (by omega))
  have esv : acC (chgX (findA l c.at_) c) sv5 = acC (chgX (findA l c.at_) c) sv7 := by
   rw [e5, e7] at e75
   simp at e75
   exact e75.1
  have KX := hid (show ∃ sv, acC (chgX (findA l c.at_) c) sv = acC (chgX (findA l c.at_) c) sv7 ∧ KeepS y sv (chgX (findA l c.at_) c).slots from ⟨sv5, esv, k5⟩)
  have QY := hid hU.1
  have hZY := hU.2.2.1
  have HZY := hid hZY
  have HBX := hid hBX
  have HBC := hid hBC
  have HDD := hid (And.intro hd1 hwd)
  rw [eb, ed]
  clear eb ed e7 e5 e75 esv k5 hU Dn hall hwb hb12 hd13 hd1 hd0 hwd hBX hBC HC1 HZ1 ho5
  have HE0 := hid (show ∀ er, chgE (findA l c.at_) c = er → er ≠ 0 → doE l c = er from fun er e h => by
   unfold doE
   rw [if_neg (by rw [HRT.out]; decide), if_pos (by rw [e]; exact h), e])
  have HE1 := hid (show ∀ er, chgE (findA l c.at_) c = 0 → (if mayB (chgX (findA l c.at_) c) = false then (1 : Int) else if (putA l (chgX (findA l c.at_) c)).length ≤ 200 then 0 else 2) = er → doE l c = er from fun er e h => by
   unfold doE
   rw [if_neg (by rw [HRT.out]; decide), if_neg (by rw [e]; decide), h])
  generalize hcer : (chgE (findA l c.at_) c) = er at *
  have HCER := hid hcer
  clear hcer
  by_cases her : er = 0
  ·subst her
   obtain ⟨sv6, hsv6, hk6⟩ := KX.out
   rw [← hsv6] at HBX
   have hlx := HBX.out.accLoad
   have HPU := hid (put_ac y (.slice a n cap) l (HS.out.later QY.out) HUP.out (by have := HL.out; omega) HSL.out (chgX (findA l c.at_) c) sv6 (chgX_ok HOKF.out HCO.out) (by
    obtain ⟨lo, h⟩ := hk6
    exact h.slots (chgX_wide HCO.out HWF.out)) (chgX_slots HSF.out))
   clear hk6 hZY hsv6 KX
   generalize acC (chgX (findA l c.at_) c) sv6 = cx6 at *
   go_wp2_with (refine wpList_load_known rfl _ (.tmp 7) rfl _ rfl _ hlx ?_)
   refine HPU.out.mono ?_
   rintro _ w4 hput
   obtain ⟨v4, er4, rfl, hst, her4, q4⟩ := hput.two
   have ST := hid hst
   have HE4 := hid (HE1.out er4 (by first | rfl | trivial) her4)
   have LC := hid (show ∀ z : World, Grows w4 z → (loadVar 33 ⟨d, 0, none⟩).run Tryz.prog z = .ok (.agg (chC (chgU (findA l c.at_) c))) z from fun z hz => by obtain ⟨q, rfl⟩ := hz; exact ((HBC.out.later q4).later q.below).chLoad)
   have Q4 := hid (QY.out.trans (q4.mono QY.out.size))
   have Q44 := hid q4
   clear hput hst her4 q4 HPU hlx
   go_wp2_with fail
   refine wp_region_mix (C := Grows w4) [some false, some true, some false, some false, none, none] hmx (by kernel_rfl) (by kernel_rfl) (grows_refl w4) ?_
   simp only [headOf, tailOf]
   repeat (first | (with_reducible refine wpQuiet_load rfl 33 _ rfl _ rfl _ LC.out ?_; simp only [Act.put, sT, sS, sZ]) | (go_big_quiet_step (fail)))
   refine wpQuiet_nil ?_
   rintro _ ⟨z, rfl⟩
   have hz9 := (HZY.out.later Q44.out).later z.below
   have hi9 := chRow (chgU (findA l c.at_) c)
   have Q9 := hid (below_rowAc (Q4.out.trans (z.below.mono Q4.out.size)) (g := W1.heap.size) (Nat.le_of_lt HLT.out) (chC (chgU (findA l c.at_) c)))
   have hB9 : Has (z.w.setRow W1.heap.size (chC (chgU (findA l c.at_) c))) W1.heap.size 33 (chC (chgU (findA l c.at_) c)) := setRow_heap _ _ _ _ _ _ hz9
   have ST9 := hid (show er4 = 0 → StK (z.w.setRow W1.heap.size (chC (chgU (findA l c.at_) c))) v4 (putA l (chgX (findA l c.at_) c)) from fun h => ((ST.out h).later z.below).row hz9 (by decide) _)
   clear LC
   go_wp2_with (refine wpList_store_row rfl _ (.tmp 5) (.tmp 36) rfl _ _ rfl rfl _ _ hz9 hi9.1 hi9.2.1 hi9.2.2 ?_)
   rw [calmPost_normal]
   go_wp2
   refine bodyPost_ret (results_three rfl rfl rfl rfl hB9) rfl ?_
   exact HF1.out _ _ er4 HE4.out ST9.out Q9.out
  ·have HE := hid (HE0.out er rfl her)
   have herI : (er == 0) = false := by simpa using her
   have HER := hid her
   have Q2 := hid (below_rowAc QY.out (g := W1.heap.size) (Nat.le_of_lt HLT.out) #[.int .i64 0, .int .u8 0, .int .u8 0, .int .u8 0, .int .u8 0, .int .u8 0, .int .u8 0, .int .u8 0, .int .u8 0, .int .u8 0, .int .u8 0, .int .u8 0, .int .u8 0, .int .u8 0, .int .u8 0, .int .u8 0, .int .u8 0, .int .u8 0, .int .u8 0, .int .u8 0, .int .u8 0, .int .u64 0, .int .u64 0, .int .u64 0, .int .u64 0, .int .u64 0, .int .u64 0, .int .u64 0, .int .u64 0, .int .i64 0, .string { data := #[] }])
   have hB2 : Has (y.setRow W1.heap.size #[.int .i64 0, .int .u8 0, .int .u8 0, .int .u8 0, .int .u8 0, .int .u8 0, .int .u8 0, .int .u8 0, .int .u8 0, .int .u8 0, .int .u8 0, .int .u8 0, .int .u8 0, .int .u8 0, .int .u8 0, .int .u8 0, .int .u8 0, .int .u8 0, .int .u8 0, .int .u8 0, .int .u8 0, .int .u64 0, .int .u64 0, .int .u64 0, .int .u64 0, .int .u64 0, .int .u64 0, .int .u64 0, .int .u64 0, .int .i64 0, .string { data := #[] }]) W1.heap.size 33 (chC zeroC) := by rw [zeroC_cells]; exact setRow_heap _ _ _ _ _ _ hZY
   go_wp2_with (refine wpList_store_row rfl _ (.tmp 5) (.tmp 27) rfl _ _ rfl rfl _ _ hZY hi rfl ha ?_)
   refine bodyPost_ret (results_three rfl rfl rfl rfl hB2) rfl ?_
   rw [zeroC_cells]
   exact HF0.out _ _ er HE.out HER.out Q2.out
 ·have hr' : rightS l = false := by simpa using hr
  rw [hr']
  have HE := hid (show doE l c = 1 by unfold doE; rw [if_pos hr'])
  have Q2 := hid (below_rowAc Q1.out (g := W1.heap.size) (Nat.le_of_lt HLT.out) #[.int .i64 0, .int .u8 0, .int .u8 0, .int .u8 0, .int .u8 0, .int .u8 0, .int .u8 0, .int .u8 0, .int .u8 0, .int .u8 0, .int .u8 0, .int .u8 0, .int .u8 0, .int .u8 0, .int .u8 0, .int .u8 0, .int .u8 0, .int .u8 0, .int .u8 0, .int .u8 0, .int .u8 0, .int .u64 0, .int .u64 0, .int .u64 0, .int .u64 0, .int .u64 0, .int .u64 0, .int .u64 0, .int .u64 0, .int .i64 0, .string { data := #[] }])
  have hB2 : Has (w1.setRow W1.heap.size #[.int .i64 0, .int .u8 0, .int .u8 0, .int .u8 0, .int .u8 0, .int .u8 0, .int .u8 0, .int .u8 0, .int .u8 0, .int .u8 0, .int .u8 0, .int .u8 0, .int .u8 0, .int .u8 0, .int .u8 0, .int .u8 0, .int .u8 0, .int .u8 0, .int .u8 0, .int .u8 0, .int .u8 0, .int .u64 0, .int .u64 0, .int .u64 0, .int .u64 0, .int .u64 0, .int .u64 0, .int .u64 0, .int .u64 0, .int .i64 0, .string { data := #[] }]) W1.heap.size 33 (chC zeroC) := by rw [zeroC_cells]; exact setRow_heap _ _ _ _ _ _ hz1
  clear hr hr' HR
  go_wp2_with (refine wpList_store_row rfl _ (.tmp 5) (.tmp 14) rfl _ _ rfl rfl _ _ hz1 hi rfl ha ?_)
  refine bodyPost_ret (results_three rfl rfl rfl rfl hB2) rfl ?_
  rw [zeroC_cells]
  exact HF0.out _ _ 1 HE.out (by decide) Q2.out
noncomputable def doL (l : List Ac) (c : Ch) : List Ac := if doE l c = 0 then putA l (chgX (findA l c.at_) c) else l
noncomputable def doU (l : List Ac) (c : Ch) : Ch := if doE l c = 0 then chgU (findA l c.at_) c else zeroC
theorem do_any (W : World) (sv : Value) (l : List Ac) (hs : StAt W sv l) (hl : l.length ≤ 99000) (hsl : ∀ y ∈ l, y.slots.length ≤ 100000) (c : Ch) (hc : ChOk c) :
  Calls Tryz.prog 23 #[sv, .agg (chC c)] W fun e w' => ∃ v, e = .returned (.tuple #[v, .agg (chC (doU l c)), .int .i64 (doE l c)]) ∧ StK w' v (doL l c) ∧ Below W.heap.size W w' := by
 have hmx : Tryz.prog.follows .mixedOrders = true := by kernel_rfl
 obtain ⟨Post, hPost⟩ : ∃ Post : Ending → World → Prop, (fun (e : Ending) (w' : World) => ∃ v, e = .returned (.tuple #[v, .agg (chC (doU l c)), .int .i64 (doE l c)]) ∧ StK w' v (doL l c) ∧ Below W.heap.size W w') = Post := ⟨_, rfl⟩
 have HF := hid (show ∀ w' v er u l', doE l c = er → doU l c = u → doL l c = l' → StK w' v l' → Below W.heap.size W w' → Post (.returned (.tuple #[v, .agg (chC u), .int .i64 er])) w' from fun w' v er u l' e1 e2 e3 h1 h2 => by
  rw [← hPost]
  subst e1 e2 e3
  exact ⟨_, rfl, h1, h2⟩)
 rw [hPost]
 clear hPost
 obtain ⟨cc, hcc⟩ : ∃ cc, chC c = cc := ⟨_, rfl⟩
 rw [hcc]
 have h10 := Has.new W 33 cc
 have q1 := newA W (.cells cc 33)
 obtain ⟨W1, hW1⟩ : ∃ W1, W.alloc (.cells cc 33) = W1 := ⟨_, rfl⟩
 rw [hW1] at h10 q1
 obtain ⟨W2, hW2, h21, q2⟩ := newK1 W1
 have HLT := hid (show W.heap.size < W1.heap.size from h10.lt)
 have QW2 := hid (q1.trans (q2.mono q1.size))
 have hl0 := (show Has W2 W.heap.size 33 (chC c) by rw [hcc]; exact h10.later q2).chLoad
 have HZ := hid h21
 obtain ⟨a, cap, rfl, hnc, hcm⟩ := hs.shape
 have HS := hid hs
 have HL := hid hl
 have HSL := hid hsl
 have HDO := hid (done_any W2 (.slice a l.length cap) l (hs.later QW2.out) hl hsl c hc)
 rw [hcc] at hl0 HDO
 obtain ⟨n, hn⟩ : ∃ n, l.length = n := ⟨_, rfl⟩
 rw [hn] at HS HDO ⊢
 have HN := hid hn
 have HCC := hid hcc
 clear h10 q1 h21 q2 hs hl hsl hc hnc hcm hn hcc
 go_enter Tryz.func23, Tryz.ntmps23
 go_wp2_with (refine wpList_load_known rfl _ (.tmp 3) rfl _ rfl _ hl0 ?_)
 refine HDO.out.mono ?_
 rintro _ w3 ⟨v3, cu, rfl, hok, q3⟩
 clear hl0 HDO hW1 hW2
 have HOK := hid hok
 have Q3 := hid (QW2.out.trans (q3.mono QW2.out.size))
 have hz3 := HZ.out.later q3
 obtain ⟨w4, hw4, h4, q4⟩ := newK1 w3
 have hi4 := chRow cu
 obtain ⟨w5, hw5⟩ : ∃ w5, w4.setRow w3.heap.size (chC cu) = w5 := ⟨_, rfl⟩
 have h5 : Has w5 w3.heap.size 33 (chC cu) := by rw [← hw5]; exact setRow_heap _ _ _ _ _ _ h4
 have q5 : Below w3.heap.size w3 w5 := by rw [← hw5]; exact below_rowAc q4 (g := w3.heap.size) (Nat.le_refl _) _
 have HZ5 := hid (hz3.later q5)
 have Q5 := hid (Q3.out.trans (q5.mono Q3.out.size))
 have HOK5 := hid (show doE l c = 0 → cu = chgU (findA l c.at_) c ∧ StK w5 v3 (putA l (chgX (findA l c.at_) c)) from fun h => ⟨(HOK.out h).1, (HOK.out h).2.later q5⟩)
 have H5 := hid h5
 clear hok q3 hz3 q4 q5 h5 HOK HZ
 have HER := hid (show doE l c = doE l c from rfl)
 by_cases her : doE l c = 0
 ·have HE0 := hid her
  rw [her]
  have LC := hid (show ∀ z : World, Grows w5 z → (loadVar 33 ⟨w3.heap.size, 0, none⟩).run Tryz.prog z = .ok (.agg (chC cu)) z from fun z hz => by obtain ⟨q, rfl⟩ := hz; exact (H5.out.later q.below).chLoad)
  clear her HER
  go_wp2_with (refine wpList_store_row rfl _ (.tmp 8) (.tmp 15) rfl _ _ rfl rfl _ _ h4 hi4.1 hi4.2.1 hi4.2.2 ?_; rw [hw5])
  refine wp_region_mix (C := Grows w5) [some false, some true, some false, none, none] hmx (by kernel_rfl) (by kernel_rfl) (grows_refl w5) ?_
  simp only [headOf, tailOf]
  repeat (first | (with_reducible refine wpQuiet_load rfl 33 _ rfl _ rfl _ LC.out ?_; simp only [Act.put, sT, sS, sZ]) | (go_big_quiet_step (fail)))
  refine wpQuiet_nil ?_
  rintro _ ⟨z, rfl⟩
  have hz9 := HZ5.out.later z.below
  have hi9 := chRow cu
  have Q9 := hid (below_rowAc (Q5.out.trans (z.below.mono Q5.out.size)) (g := W1.heap.size) (Nat.le_of_lt HLT.out) (chC cu))
  have hB9 : Has (z.w.setRow W1.heap.size (chC cu)) W1.heap.size 33 (chC cu) := setRow_heap _ _ _ _ _ _ hz9
  obtain ⟨hcu, hst⟩ := HOK5.out HE0.out
  have ST9 := hid ((hst.later z.below).row hz9 (by decide) (chC cu))
  have HCU := hid hcu
  clear LC hst hcu hw4 hw5
  go_wp2_with (refine wpList_store_row rfl _ (.tmp 5) (.tmp 24) rfl _ _ rfl rfl _ _ hz9 hi9.1 hi9.2.1 hi9.2.2 ?_)
  rw [calmPost_normal]
  go_wp2
  refine bodyPost_ret (results_three rfl rfl rfl rfl hB9) rfl ?_
  exact HF.out _ _ 0 cu _ HE0.out (by unfold doU; rw [if_pos HE0.out, HCU.out]) (by unfold doL; rw [if_pos HE0.out]) ST9.out Q9.out
 ·have HE0 := hid her
  generalize hcer : doE l c = er at *
  have HCER := hid hcer
  have herI : (er == 0) = false := by simpa using her
  have HC := hid (copied_any w5 (.slice a n cap) l (HS.out.later Q5.out) (by have := HL.out; omega) HSL.out)
  clear hcer
  go_wp2_with (refine wpList_store_row rfl _ (.tmp 8) (.tmp 15) rfl _ _ rfl rfl _ _ h4 hi4.1 hi4.2.1 hi4.2.2 ?_; rw [hw5])
  refine HC.out.mono ?_
  rintro _ w6 ⟨v6, ps, rfl, hps, hrow, hall, q6⟩
  have hz6 := HZ5.out.later q6
  have Q6 := hid (below_rowAc (Q5.out.trans (q6.mono Q5.out.size)) (g := W1.heap.size) (Nat.le_of_lt HLT.out) #[.int .i64 0, .int .u8 0, .int .u8 0, .int .u8 0, .int .u8 0, .int .u8 0, .int .u8 0, .int .u8 0, .int .u8 0, .int .u8 0, .int .u8 0, .int .u8 0, .int .u8 0, .int .u8 0, .int .u8 0, .int .u8 0, .int .u8 0, .int .u8 0, .int .u8 0, .int .u8 0, .int .u8 0, .int .u64 0, .int .u64 0, .int .u64 0, .int .u64 0, .int .u64 0, .int .u64 0, .int .u64 0, .int .u64 0, .int .i64 0, .string { data := #[] }])
  have hi : (Tryz.prog.info? 33).map (·.size) = some (#[.int .i64 0, .int .u8 0, .int .u8 0, .int .u8 0, .int .u8 0, .int .u8 0, .int .u8 0, .int .u8 0, .int .u8 0, .int .u8 0, .int .u8 0, .int .u8 0, .int .u8 0, .int .u8 0, .int .u8 0, .int .u8 0, .int .u8 0, .int .u8 0, .int .u8 0, .int .u8 0, .int .u8 0, .int .u64 0, .int .u64 0, .int .u64 0, .int .u64 0, .int .u64 0, .int .u64 0, .int .u64 0, .int .u64 0, .int .i64 0, .string { data := #[] }] : Array Value).size := infoCh
  have ha : (#[.int .i64 0, .int .u8 0, .int .u8 0, .int .u8 0, .int .u8 0, .int .u8 0, .int .u8 0, .int .u8 0, .int .u8 0, .int .u8 0, .int .u8 0, .int .u8 0, .int .u8 0, .int .u8 0, .int .u8 0, .int .u8 0, .int .u8 0, .int .u8 0, .int .u8 0, .int .u8 0, .int .u8 0, .int .u64 0, .int .u64 0, .int .u64 0, .int .u64 0, .int .u64 0, .int .u64 0, .int .u64 0, .int .u64 0, .int .i64 0, .string { data := #[] }] : Array Value).all (·.oneCell') = true := by rw [← zeroC_cells]; exact chC_one _
  have hB6 : Has (w6.setRow W1.heap.size #[.int .i64 0, .int .u8 0, .int .u8 0, .int .u8 0, .int .u8 0, .int .u8 0, .int .u8 0, .int .u8 0, .int .u8 0, .int .u8 0, .int .u8 0, .int .u8 0, .int .u8 0, .int .u8 0, .int .u8 0, .int .u8 0, .int .u8 0, .int .u8 0, .int .u8 0, .int .u8 0, .int .u8 0, .int .u64 0, .int .u64 0, .int .u64 0, .int .u64 0, .int .u64 0, .int .u64 0, .int .u64 0, .int .u64 0, .int .i64 0, .string { data := #[] }]) W1.heap.size 33 (chC zeroC) := by rw [zeroC_cells]; exact setRow_heap _ _ _ _ _ _ hz6
  have ST6 := hid ((show StK w6 v6 l from ⟨_, ps, hps, hrow, hall⟩).row hz6 (by decide) #[.int .i64 0, .int .u8 0, .int .u8 0, .int .u8 0, .int .u8 0, .int .u8 0, .int .u8 0, .int .u8 0, .int .u8 0, .int .u8 0, .int .u8 0, .int .u8 0, .int .u8 0, .int .u8 0, .int .u8 0, .int .u8 0, .int .u8 0, .int .u8 0, .int .u8 0, .int .u8 0, .int .u8 0, .int .u64 0, .int .u64 0, .int .u64 0, .int .u64 0, .int .u64 0, .int .u64 0, .int .u64 0, .int .u64 0, .int .i64 0, .string { data := #[] }])
  clear HC hps hrow hall q6 hw4 hw5 h4 hi4
  go_wp2_with (refine wpList_store_row rfl _ (.tmp 5) (.tmp 21) rfl _ _ rfl rfl _ _ hz6 hi rfl ha ?_)
  refine bodyPost_ret (results_three rfl rfl rfl rfl hB6) rfl ?_
  exact HF.out _ _ er zeroC l (by first | rfl | exact HCER.out) (by unfold doU; rw [if_neg (by rw [HCER.out]; exact HE0.out)]) (by unfold doL; rw [if_neg (by rw [HCER.out]; exact HE0.out)]) ST6.out Q6.out
noncomputable def setE (l : List Ac) (x : Ac) : Int := if rightS l = false then 1 else if mayB x = false then 1 else if (putA l x).length ≤ 200 then 0 else 2
theorem set_any (W : World) (sv : Value) (l : List Ac) (hs : StAt W sv l) (hl : l.length ≤ 99000) (hsl : ∀ y ∈ l, y.slots.length ≤ 100000) (x : Ac) (sx : Value) (hx : AcOk x) (hsx : SlotsAt W sx x.slots) (hxl : x.slots.length ≤ 100000) :
  Calls Tryz.prog 20 #[sv, .agg (acC x sx)] W fun e w' => ∃ v, e = .returned (.tuple #[v, .int .i64 (setE l x)]) ∧ (setE l x = 0 → StK w' v (putA l x)) ∧ Below W.heap.size W w' := by
 obtain ⟨Post, hPost⟩ : ∃ Post : Ending → World → Prop, (fun (e : Ending) (w' : World) => ∃ v, e = .returned (.tuple #[v, .int .i64 (setE l x)]) ∧ (setE l x = 0 → StK w' v (putA l x)) ∧ Below W.heap.size W w') = Post := ⟨_, rfl⟩
 have HF := hid (show ∀ w' v er, setE l x = er → (er = 0 → StK w' v (putA l x)) → Below W.heap.size W w' → Post (.returned (.tuple #[v, .int .i64 er])) w' from fun w' v er e1 h1 h2 => by
  rw [← hPost]
  subst e1
  exact ⟨_, rfl, h1, h2⟩)
 rw [hPost]
 clear hPost
 obtain ⟨cx, hcx⟩ : ∃ cx, acC x sx = cx := ⟨_, rfl⟩
 rw [hcx]
 have h10 := Has.new W 31 cx
 have q1 := newA W (.cells cx 31)
 obtain ⟨W1, hW1⟩ : ∃ W1, W.alloc (.cells cx 31) = W1 := ⟨_, rfl⟩
 rw [hW1] at h10 q1
 have Q1 := hid q1
 have HX := hid (show Has W1 W.heap.size 31 (acC x sx) by rw [hcx]; exact h10)
 have HRI := hid (right_st W1 sv l (hs.later q1))
 have HS := hid hs
 have HL := hid hl
 have HSL := hid hsl
 have HXO := hid hx
 have HSX := hid hsx
 have HXL := hid hxl
 have HCX := hid hcx
 clear h10 q1 hs hl hsl hx hsx hxl hcx
 go_enter Tryz.func20, Tryz.ntmps20
 go_wp2_with fail
 refine HRI.out.mono ?_
 rintro _ w1 ⟨rfl, q2⟩
 have Q2 := hid (Q1.out.trans (q2.mono Q1.out.size))
 have hl2 := (HX.out.later q2).accLoad
 rw [HCX.out] at hl2
 clear q2 HRI hW1
 by_cases hr : rightS l = true
 ·rw [hr]
  have HUP := hid (show Ups l by
   unfold rightS at hr
   simp only [Bool.and_eq_true] at hr
   exact (upsB_iff l).1 hr.2.1)
  have HRT := hid hr
  clear hr
  have HPU := hid (put_ac w1 sv l (HS.out.later Q2.out) HUP.out (by have := HL.out; omega) HSL.out x sx HXO.out (HSX.out.later Q2.out) HXL.out)
  rw [HCX.out] at HPU
  go_wp2_with (refine wpList_load_known rfl _ (.tmp 3) rfl _ rfl _ hl2 ?_)
  refine HPU.out.mono ?_
  rintro _ w4 hput
  obtain ⟨v4, er4, rfl, hst, her4, q4⟩ := hput.two
  have HE := hid (show setE l x = er4 by unfold setE; rw [if_neg (by rw [HRT.out]; decide), her4])
  have ST := hid hst
  have Q4 := hid (Q2.out.trans (q4.mono Q2.out.size))
  clear hput hst her4 q4 HPU hl2
  go_wp2_with fail
  exact HF.out _ _ er4 HE.out ST.out Q4.out
 ·have hr' : rightS l = false := by simpa using hr
  rw [hr']
  have HE := hid (show setE l x = 1 by unfold setE; rw [if_pos hr'])
  clear hr hr' hl2
  go_wp2_with fail
  exact HF.out _ _ 1 HE.out (fun h => absurd h (by decide)) Q2.out
end
section
open Go Go.RowKit
attribute [local go_sem] Oper.semAt_some Grows wide_fn Tryz.eqGuardType63
attribute [local go_sem high] eq8
theorem equal_slots (W : World) (sa sb : Value) (la lb : List Sl) (ha : SlotsAt W sa la) (hb : SlotsAt W sb lb) :
  Calls Tryz.prog 58 #[sa, sb] W fun e w' => e = .returned (.bool (decide (la = lb))) ∧ Below W.heap.size W w' := by
 have hmx : Tryz.prog.follows .mixedOrders = true := by kernel_rfl
 obtain ⟨a, ca, rfl, ha1, ha2⟩ := ha.shape
 obtain ⟨b, cb, rfl, hb1, hb2⟩ := hb.shape
 have HA := hid ha
 have HB := hid hb
 obtain ⟨m, hm⟩ : ∃ m, la.length = m := ⟨_, rfl⟩
 obtain ⟨n, hn⟩ : ∃ n, lb.length = n := ⟨_, rfl⟩
 rw [hm] at HA ha1 ⊢
 rw [hn] at HB hb1 ⊢
 have HM := hid hm
 have HN := hid hn
 have hlc := hid (Nat.le_trans ha1 ha2)
 clear ha hb hm hn ha1 ha2 hb1 hb2
 by_cases hmn : m = n
 ·subst hmn
  have hres := hid (show ∀ X, Below W.heap.size W X → (∀ (j : Nat) (x y : Sl), la[j]? = some x → lb[j]? = some y → x = y) → (Ending.returned (.bool true) = .returned (.bool (decide (la = lb))) ∧ Below W.heap.size W X) from fun X hX h => ⟨by rw [decide_eq_true (same_snoc HM.out HN.out h)], hX⟩)
  have hno := hid (show ∀ X, Below W.heap.size W X → la ≠ lb → (Ending.returned (.bool false) = .returned (.bool (decide (la = lb))) ∧ Below W.heap.size W X) from fun X hX h => ⟨by rw [decide_eq_false h], hX⟩)
  obtain ⟨Post, hPost⟩ : ∃ Post : Ending → World → Prop, (fun (e : Ending) (w' : World) => e = .returned (.bool (decide (la = lb))) ∧ Below W.heap.size W w') = Post := ⟨_, rfl⟩
  replace hres := hid (show ∀ X, Below W.heap.size W X → (∀ (j : Nat) (x y : Sl), la[j]? = some x → lb[j]? = some y → x = y) → Post (.returned (.bool true)) X by rw [← hPost]; exact hres.out)
  replace hno := hid (show ∀ X, Below W.heap.size W X → la ≠ lb → Post (.returned (.bool false)) X by rw [← hPost]; exact hno.out)
  rw [hPost]
  clear hPost
  go_enter Tryz.func58, Tryz.ntmps58
  go_wp2_with fail
  go_loopw [13] (fun i wr => ∃ k : Nat, k ≤ m ∧ i = .int .i64 (k : Int) ∧ (∀ (j : Nat) (x y : Sl), j < k → la[j]? = some x → lb[j]? = some y → x = y) ∧ Below W.heap.size W wr) (fun i _ => m - (intOf i).toNat)
  case atStart => exact ⟨0, by omega, rfl, fun j x y h => absurd h (by omega), Below.refl _ _⟩
  case round =>
   obtain ⟨k, hk, rfl, hlt, hq⟩ := hrel
   have HLT := hid hlt
   have HQ := hid hq
   clear hlt hq
   by_cases hkn : k < m
   ·have hknI : (k : Int) < (m : Int) := by omega
    have hk0 : (0 : Int) ≤ (k : Int) := by omega
    have hkb : (k : Int) ≤ 9223372036854775806 := by have := hlc.out; omega
    obtain ⟨x, hx⟩ : ∃ x, la[k]? = some x := ⟨_, List.getElem?_eq_getElem (by have := HM.out; omega)⟩
    obtain ⟨y, hy⟩ : ∃ y, lb[k]? = some y := ⟨_, List.getElem?_eq_getElem (by have := HN.out; omega)⟩
    obtain ⟨ba, rfl, _⟩ := (HA.out.later HQ.out).at hx
    obtain ⟨bb, rfl, _⟩ := (HB.out.later HQ.out).at hy
    have hC := fun z : Ext wr => (HA.out.later (HQ.out.trans (z.below.mono HQ.out.size))).at' hx
    have hD := fun z : Ext wr => (HB.out.later (HQ.out.trans (z.below.mono HQ.out.size))).at' hy
    have wx := HA.out.wide hx
    have wy := HB.out.wide hy
    have hE := eq_slot x y wx wy
    have c0 := fun z : Ext wr => (hC z).1
    have c1 := fun z : Ext wr => (hC z).2.1
    have c2 := fun z : Ext wr => (hC z).2.2.1
    have c3 := fun z : Ext wr => (hC z).2.2.2.1
    have c4 := fun z : Ext wr => (hC z).2.2.2.2.1
    have c5 := fun z : Ext wr => (hC z).2.2.2.2.2.1
    have c6 := fun z : Ext wr => (hC z).2.2.2.2.2.2.1
    have c7 := fun z : Ext wr => (hC z).2.2.2.2.2.2.2
    have d0 := fun z : Ext wr => (hD z).1
    have d1 := fun z : Ext wr => (hD z).2.1
    have d2 := fun z : Ext wr => (hD z).2.2.1
    have d3 := fun z : Ext wr => (hD z).2.2.2.1
    have d4 := fun z : Ext wr => (hD z).2.2.2.2.1
    have d5 := fun z : Ext wr => (hD z).2.2.2.2.2.1
    have d6 := fun z : Ext wr => (hD z).2.2.2.2.2.2.1
    have d7 := fun z : Ext wr => (hD z).2.2.2.2.2.2.2
    have HK := hid hkn
    have HX := hid (And.intro hx hy)
    clear hkn hx hy wx wy hk hC hD
    by_cases hxy : x = y
    ·rw [decide_eq_true hxy] at hE
     have HXY := hid hxy
     clear hxy
     generalize lim x.1 0 = x0 at *
     generalize lim x.1 1 = x1 at *
     generalize lim x.1 2 = x2 at *
     generalize lim x.1 3 = x3 at *
     generalize lim x.2 0 = x4 at *
     generalize lim x.2 1 = x5 at *
     generalize lim x.2 2 = x6 at *
     generalize lim x.2 3 = x7 at *
     generalize lim y.1 0 = y0 at *
     generalize lim y.1 1 = y1 at *
     generalize lim y.1 2 = y2 at *
     generalize lim y.1 3 = y3 at *
     generalize lim y.2 0 = y4 at *
     generalize lim y.2 1 = y5 at *
     generalize lim y.2 2 = y6 at *
     generalize lim y.2 3 = y7 at *
     go_wp2_with fail
     refine wp_region_quietL (C := Grows wr) hmx (by kernel_rfl) (grows_refl wr) ?_
     repeat (go_big_quiet_step (fail))
     refine wpQuiet_nil ?_
     rintro _ ⟨z, rfl⟩
     have HE := hid (HQ.out.trans (z.below.mono HQ.out.size))
     clear c0 c1 c2 c3 c4 c5 c6 c7 d0 d1 d2 d3 d4 d5 d6 d7
     go_wp2_with fail
     go_roundw
     case rel => exact ⟨k + 1, by have := HK.out; omega, by simp, fun j x' y' hj hx hy => by
      by_cases hjk : j < k
      ·exact HLT.out j x' y' hjk hx hy
      ·obtain rfl : j = k := by omega
       rw [HX.out.1] at hx
       rw [HX.out.2] at hy
       injection hx with hx
       injection hy with hy
       subst hx hy
       exact HXY.out, HE.out⟩
     case measure => have := HK.out; simp [intOf]; omega
    ·rw [decide_eq_false hxy] at hE
     have HXY := hid (show la ≠ lb from fun h => hxy (by
      have h1 := HX.out.1
      rw [h, HX.out.2] at h1
      injection h1 with h1
      exact h1.symm))
     clear hxy
     generalize lim x.1 0 = x0 at *
     generalize lim x.1 1 = x1 at *
     generalize lim x.1 2 = x2 at *
     generalize lim x.1 3 = x3 at *
     generalize lim x.2 0 = x4 at *
     generalize lim x.2 1 = x5 at *
     generalize lim x.2 2 = x6 at *
     generalize lim x.2 3 = x7 at *
     generalize lim y.1 0 = y0 at *
     generalize lim y.1 1 = y1 at *
     generalize lim y.1 2 = y2 at *
     generalize lim y.1 3 = y3 at *
     generalize lim y.2 0 = y4 at *
     generalize lim y.2 1 = y5 at *
     generalize lim y.2 2 = y6 at *
     generalize lim y.2 3 = y7 at *
     go_wp2_with fail
     refine wp_region_quietL (C := Grows wr) hmx (by kernel_rfl) (grows_refl wr) ?_
     repeat (go_big_quiet_step (fail))
     refine wpQuiet_nil ?_
     rintro _ ⟨z, rfl⟩
     have HE := hid (HQ.out.trans (z.below.mono HQ.out.size))
     clear c0 c1 c2 c3 c4 c5 c6 c7 d0 d1 d2 d3 d4 d5 d6 d7
     go_wp2_with fail
     exact hno.out _ HE.out HXY.out
   ·have hknI : ¬ (k : Int) < (m : Int) := by omega
    have HR := hid (show ∀ (j : Nat) (x y : Sl), la[j]? = some x → lb[j]? = some y → x = y from fun j x y hx hy => HLT.out j x y (by
     have := (List.getElem?_eq_some_iff.1 hx).1
     have := HM.out
     omega) hx hy)
    go_wp2_with fail
    exact hres.out _ HQ.out HR.out
 ·have hI : ¬ (m : Int) = (n : Int) := by omega
  have hne := hid (show la ≠ lb from fun h => hmn (by rw [← HM.out, ← HN.out, h]))
  clear hmn
  go_enter Tryz.func58, Tryz.ntmps58
  go_wp2_with fail
  go_ret
  exact ⟨by rw [decide_eq_false hne.out]; rfl, Below.refl _ _⟩
end
section
open Go Go.RowKit
attribute [local go_sem] Oper.semAt_some Grows wide_fn eq4
noncomputable def sameA (x y : Ac) : Bool := @decide (x = y) (Classical.propDecidable _)
theorem sameA_true {x y : Ac} (h : x = y) : sameA x y = true := by unfold sameA; exact @decide_eq_true _ (Classical.propDecidable _) h
theorem sameA_false {x y : Ac} (h : x ≠ y) : sameA x y = false := by unfold sameA; exact @decide_eq_false _ (Classical.propDecidable _) h
theorem same_code (a b : ByteArray) : (a.toList == b.toList) = true ↔ a = b := by
 rw [beq_iff_eq, ByteArray.toList_eq, ByteArray.toList_eq]
 constructor
 ·intro h
  exact ByteArray.ext (Array.ext' h)
 ·rintro rfl; rfl
theorem alike_any (W : World) (x y : Ac) (sx sy : Value) (hx : AcOk x) (hy : AcOk y) (hsx : SlotsAt W sx x.slots) (hsy : SlotsAt W sy y.slots) :
  Calls Tryz.prog 35 #[.agg (acC x sx), .agg (acC y sy)] W fun e w' => e = .returned (.bool (sameA x y)) ∧ Below W.heap.size W w' := by
 obtain ⟨a1, c1, rfl, _, _⟩ := hsx.shape
 obtain ⟨a2, c2, rfl, _, _⟩ := hsy.shape
 obtain ⟨cx, hcx⟩ : ∃ cx, acC x (.slice a1 x.slots.length c1) = cx := ⟨_, rfl⟩
 obtain ⟨cy, hcy⟩ : ∃ cy, acC y (.slice a2 y.slots.length c2) = cy := ⟨_, rfl⟩
 rw [hcx, hcy]
 have h10 := Has.new W 31 cx
 have q1 := newA W (.cells cx 31)
 obtain ⟨W1, hW1⟩ : ∃ W1, W.alloc (.cells cx 31) = W1 := ⟨_, rfl⟩
 rw [hW1] at h10 q1
 have h21 := Has.new W1 31 cy
 have q2 := newA W1 (.cells cy 31)
 obtain ⟨W2, hW2⟩ : ∃ W2, W1.alloc (.cells cy 31) = W2 := ⟨_, rfl⟩
 rw [hW2] at h21 q2
 have HX := (show Has W2 W.heap.size 31 (acC x (.slice a1 x.slots.length c1)) by rw [hcx]; exact h10.later q2)
 have HY := (show Has W2 W1.heap.size 31 (acC y (.slice a2 y.slots.length c2)) by rw [hcy]; exact h21)
 have Q2 := hid (q1.trans (q2.mono q1.size))
 have HEQ := hid (equal_slots W2 _ _ x.slots y.slots (hsx.later Q2.out) (hsy.later Q2.out))
 have hax := HX.accAdLoad
 have hay := HY.accAdLoad
 obtain ⟨x20, x21, x22, x23, x24, x25, x26⟩ := HX.acc
 obtain ⟨y20, y21, y22, y23, y24, y25, y26⟩ := HY.acc
 have he := fun X => eq20 x.at_ y.at_ hx.at_ hy.at_ X
 have hw := eqv_w x.bal y.bal hx.bal hy.bal
 have hcode := same_code x.code y.code
 have HT := hid (fun (h1 : x.at_ = y.at_) (h2 : x.bal = y.bal) (h3 : x.non = y.non) (h4 : x.code = y.code) (h5 : x.slots = y.slots) => sameA_true (show x = y by cases x; cases y; simp_all))
 have HN := hid (fun (h : x ≠ y) => sameA_false h)
 have N1 := hid (fun (h : ¬ x.at_ = y.at_) => sameA_false (show x ≠ y from fun e => h (by rw [e])))
 have N2 := hid (fun (h : ¬ x.bal = y.bal) => sameA_false (show x ≠ y from fun e => h (by rw [e])))
 have N3 := hid (fun (h : ¬ x.non = y.non) => sameA_false (show x ≠ y from fun e => h (by rw [e])))
 have N4 := hid (fun (h : ¬ x.code = y.code) => sameA_false (show x ≠ y from fun e => h (by rw [e])))
 have N5 := hid (fun (h : ¬ x.slots = y.slots) => sameA_false (show x ≠ y from fun e => h (by rw [e])))
 obtain ⟨res, hres⟩ : ∃ res, sameA x y = res := ⟨_, rfl⟩
 rw [hres] at HT HN N1 N2 N3 N4 N5
 rw [hres]
 clear HN HX HY hcx hcy h10 h21 q1 q2 hx hy hsx hsy hres
 generalize adC x.at_ = ax at *
 generalize adC y.at_ = ay at *
 generalize lim x.bal 0 = l0 at *
 generalize lim x.bal 1 = l1 at *
 generalize lim x.bal 2 = l2 at *
 generalize lim x.bal 3 = l3 at *
 generalize lim y.bal 0 = m0 at *
 generalize lim y.bal 1 = m1 at *
 generalize lim y.bal 2 = m2 at *
 generalize lim y.bal 3 = m3 at *
 replace hcode := hid hcode
 by_cases h1 : x.at_ = y.at_
 ·rw [decide_eq_true h1] at he
  have H1 := hid h1
  clear h1 N1
  by_cases h2 : x.bal = y.bal
  ·rw [decide_eq_true h2] at hw
   have H2 := hid h2
   clear h2 N2
   by_cases h3 : x.non = y.non
   ·have h3I : (x.non == y.non) = true := by simp [h3]
    have H3 := hid h3
    clear h3 N3
    generalize x.non = n1 at *
    generalize y.non = n2 at *
    by_cases h4 : x.code = y.code
    ·have h4I : (x.code.toList == y.code.toList) = true := hcode.out.2 h4
     have H4 := hid h4
     clear h4 N4
     generalize x.code = d1 at *
     generalize y.code = d2 at *
     generalize x.slots.length = k1 at *
     generalize y.slots.length = k2 at *
     go_enter Tryz.func35, Tryz.ntmps35
     go_wp2_with (first | (refine wpList_load_known rfl _ (.tmp 5) rfl _ rfl _ hax ?_) | (refine wpList_load_known rfl _ (.tmp 7) rfl _ rfl _ hay ?_))
     refine HEQ.out.mono ?_
     rintro _ w3 ⟨rfl, q3⟩
     have Q3 := hid (Q2.out.trans (q3.mono Q2.out.size))
     by_cases h5 : x.slots = y.slots
     ·have E := hid (HT.out H1.out H2.out H3.out H4.out h5)
      rw [decide_eq_true h5]
      clear h5 q3 HEQ hW1 hW2
      go_wp2_with fail
      go_ret
      exact ⟨by rw [E.out]; rfl, Q3.out⟩
     ·have E := hid (N5.out h5)
      rw [decide_eq_false h5]
      clear h5 q3 HEQ hW1 hW2
      go_wp2_with fail
      go_ret
      exact ⟨by rw [E.out]; rfl, Q3.out⟩
    ·have h4I : (x.code.toList == y.code.toList) = false := by
      cases hb : (x.code.toList == y.code.toList) with
      | false => rfl
      | true => exact absurd (hcode.out.1 hb) h4
     have E := hid (N4.out h4)
     clear h4 N4
     generalize x.code = d1 at *
     generalize y.code = d2 at *
     generalize x.slots.length = k1 at *
     generalize y.slots.length = k2 at *
     go_enter Tryz.func35, Tryz.ntmps35
     go_wp2_with (first | (refine wpList_load_known rfl _ (.tmp 5) rfl _ rfl _ hax ?_) | (refine wpList_load_known rfl _ (.tmp 7) rfl _ rfl _ hay ?_))
     go_ret
     exact ⟨by rw [E.out]; rfl, Q2.out⟩
   ·have h3I : (x.non == y.non) = false := by simpa using h3
    have E := hid (N3.out h3)
    clear h3 N3
    generalize x.non = n1 at *
    generalize y.non = n2 at *
    go_enter Tryz.func35, Tryz.ntmps35
    go_wp2_with (first | (refine wpList_load_known rfl _ (.tmp 5) rfl _ rfl _ hax ?_) | (refine wpList_load_known rfl _ (.tmp 7) rfl _ rfl _ hay ?_))
    go_ret
    exact ⟨by rw [E.out]; rfl, Q2.out⟩
  ·rw [decide_eq_false h2] at hw
   have E := hid (N2.out h2)
   clear h2 N2
   go_enter Tryz.func35, Tryz.ntmps35
   go_wp2_with (first | (refine wpList_load_known rfl _ (.tmp 5) rfl _ rfl _ hax ?_) | (refine wpList_load_known rfl _ (.tmp 7) rfl _ rfl _ hay ?_))
   go_ret
   exact ⟨by rw [E.out]; rfl, Q2.out⟩
 ·rw [decide_eq_false h1] at he
  have E := hid (N1.out h1)
  clear h1 N1
  go_enter Tryz.func35, Tryz.ntmps35
  go_wp2_with (first | (refine wpList_load_known rfl _ (.tmp 5) rfl _ rfl _ hax ?_) | (refine wpList_load_known rfl _ (.tmp 7) rfl _ rfl _ hay ?_))
  go_ret
  exact ⟨by rw [E.out]; rfl, Q2.out⟩
end
end Go.Proofs.YtkicmbdjihjgfaaGreatDoor

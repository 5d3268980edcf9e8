import Derived.Test.YtadfkiebblmfkaaGreatDoorS01
import Derived.Test.YtadfkiebblmfkaaGreatDoorS07
import Derived.Test.YtadfkiebblmfkaaGreatDoorS05
import Derived.Laws.EntriesVeiled
/- How slots lie in memory. Conditions: none. -/
namespace Go.Proofs.YtadfkiebblmfkaaGreatDoor
open Go Go.RowKit

/-- A slot's eight parts. -/
def slP (x : Sl) (j : Nat) : Int := if j < 4 then lim x.1 j else lim x.2 (j - 4)
def slC (x : Sl) : List Value := [.int .u64 (lim x.1 0), .int .u64 (lim x.1 1), .int .u64 (lim x.1 2), .int .u64 (lim x.1 3), .int .u64 (lim x.2 0), .int .u64 (lim x.2 1), .int .u64 (lim x.2 2), .int .u64 (lim x.2 3)]
abbrev slV (x : Sl) : Value := .agg #[.int .u64 (lim x.1 0), .int .u64 (lim x.1 1), .int .u64 (lim x.1 2), .int .u64 (lim x.1 3), .int .u64 (lim x.2 0), .int .u64 (lim x.2 1), .int .u64 (lim x.2 2), .int .u64 (lim x.2 3)]
/-- Slots, one behind the other. -/
def SlotsAt (W : World) (v : Value) (l : List Sl) : Prop :=
  ∃ a cap, v = .slice a l.length cap ∧ l.length ≤ cap ∧ cap ≤ 9223372036854775807 ∧ (∀ x ∈ l, W256 x.1 ∧ W256 x.2) ∧ ∀ (i : Nat) (x : Sl), l[i]? = some x → ∃ b, a = some b ∧ ∀ j : Nat, j < 8 → W.cell? ((b.add (i * 8)).add j) = some (.int .u64 (slP x j))
theorem SlotsAt.keep {W X : World} {v : Value} {l : List Sl} (h : SlotsAt W v l) (hk : ∀ (a : Addr) (u : Value), W.cell? a = some u → X.cell? a = some u) : SlotsAt X v l := by
  obtain ⟨a, cap, h1, h2, h3, h4, h5⟩ := h
  refine ⟨a, cap, h1, h2, h3, h4, fun i x hx => ?_⟩
  obtain ⟨b, e, hc⟩ := h5 i x hx
  exact ⟨b, e, fun j hj => hk _ _ (hc j hj)⟩
theorem SlotsAt.later {W X : World} {v : Value} {l : List Sl} (h : SlotsAt W v l) (hb : Below W.heap.size W X) : SlotsAt X v l := h.keep (cell_below hb)
theorem SlotsAt.nil (W : World) : SlotsAt W (.slice none 0 0) [] := ⟨none, 0, rfl, by simp, by omega, (fun x hx => by cases hx), fun i x hx => by simp at hx⟩
theorem SlotsAt.shape {W : World} {v : Value} {l : List Sl} (h : SlotsAt W v l) : ∃ a cap, v = .slice a l.length cap ∧ l.length ≤ cap ∧ cap ≤ 9223372036854775807 := by
  obtain ⟨a, cap, h1, h2, h3, _⟩ := h
  exact ⟨a, cap, h1, h2, h3⟩
theorem SlotsAt.wide {W : World} {v : Value} {l : List Sl} (h : SlotsAt W v l) {i : Nat} {x : Sl} (hx : l[i]? = some x) : W256 x.1 ∧ W256 x.2 := by
  obtain ⟨a, cap, h1, h2, h3, h4, _⟩ := h
  exact h4 x (List.mem_of_getElem? hx)
/-- A slot's parts, as a walk finds them. -/
theorem SlotsAt.at {W : World} {a : Option Addr} {n cap : Nat} {l : List Sl} (h : SlotsAt W (.slice a n cap) l) {i : Nat} {x : Sl} (hx : l[i]? = some x) :
    ∃ b, a = some b ∧ W.cell? (b.add (i * 8)) = some (.int .u64 (lim x.1 0)) ∧ W.cell? ⟨(b.add (i * 8)).block, (b.add (i * 8)).off + 1, none⟩ = some (.int .u64 (lim x.1 1)) ∧ W.cell? ⟨(b.add (i * 8)).block, (b.add (i * 8)).off + 2, none⟩ = some (.int .u64 (lim x.1 2)) ∧ W.cell? ⟨(b.add (i * 8)).block, (b.add (i * 8)).off + 3, none⟩ = some (.int .u64 (lim x.1 3)) ∧
      W.cell? ⟨(b.add (i * 8)).block, (b.add (i * 8)).off + 4, none⟩ = some (.int .u64 (lim x.2 0)) ∧ W.cell? ⟨(b.add (i * 8)).block, (b.add (i * 8)).off + 5, none⟩ = some (.int .u64 (lim x.2 1)) ∧ W.cell? ⟨(b.add (i * 8)).block, (b.add (i * 8)).off + 6, none⟩ = some (.int .u64 (lim x.2 2)) ∧ W.cell? ⟨(b.add (i * 8)).block, (b.add (i * 8)).off + 7, none⟩ = some (.int .u64 (lim x.2 3)) := by
  obtain ⟨a', cap', h1, h2, h3, h4, h5⟩ := h
  injection h1 with e1 e2 e3
  subst e1
  obtain ⟨b, e, hc⟩ := h5 i x hx
  refine ⟨b, e, ?_, hc 1 (by decide), hc 2 (by decide), hc 3 (by decide), hc 4 (by decide), hc 5 (by decide), hc 6 (by decide), hc 7 (by decide)⟩
  have h0 := hc 0 (by decide)
  rw [Addr.add_add, Nat.add_zero] at h0
  exact h0
theorem SlotsAt.take {W : World} {a : Option Addr} {n cap : Nat} {l : List Sl} (h : SlotsAt W (.slice a n cap) l) (k : Nat) (hk : k ≤ n) : SlotsAt W (.slice a k cap) (l.take k) := by
  obtain ⟨a', cap', h1, h2, h3, h4, h5⟩ := h
  injection h1 with e1 e2 e3
  subst e1 e3
  refine ⟨a, cap, by rw [List.length_take, Nat.min_eq_left (by omega)], by rw [List.length_take]; omega, h3, fun x hx => h4 x (List.mem_of_mem_take hx), fun i x hx => ?_⟩
  rw [List.getElem?_take] at hx
  split at hx
  · exact h5 i x hx
  · cases hx
end Go.Proofs.YtadfkiebblmfkaaGreatDoor

/- Slots as a table: its functions. Conditions: the slots lie in memory. -/
namespace Go.Proofs.YtadfkiebblmfkaaGreatDoor
open Go Go.RowKit
attribute [local go_sem] Oper.semAt_some Grows wide_fn

theorem wrapIn (n : Int) (h : -9223372036854775808 ≤ n ∧ n ≤ 9223372036854775807) : wrap64 n = n := by unfold wrap64; omega
set_option maxRecDepth 100000 in
set_option maxHeartbeats 1000000 in
theorem key_at (W : World) (B : Nat) (sv : Value) (l : List Sl) (hB : Has W B 29 #[sv]) (hs : SlotsAt W sv l) (i : Nat) (x : Sl) (hx : l[i]? = some x) :
    Calls Tryz.prog 156 #[.int .i64 (i : Int), .pointer (some ⟨B, 0, none⟩)] W fun e w' => e = .returned (wv x.1) ∧ Below W.heap.size W w' := by
  obtain ⟨a, cap, rfl, hnc, hcm⟩ := hs.shape
  have q1 := (Below.refl W.heap.size W).alloc (Nat.le_refl _) (.cells #[.int .u64 0, .int .u64 0, .int .u64 0, .int .u64 0] 28)
  obtain ⟨b, rfl, c0, c1, c2, c3, c4, c5, c6, c7⟩ := (hs.later q1).at hx
  have hi : i < l.length := (List.getElem?_eq_some_iff.1 hx).1
  have hiI : (i : Int) < (l.length : Int) := by omega
  have hi0 : (0 : Int) ≤ (i : Int) := by omega
  have k0 := (hB.later q1).cell 0 _ rfl
  have N0 := Has.new W 28 #[.int .u64 0, .int .u64 0, .int .u64 0, .int .u64 0]
  obtain ⟨W1, hW1⟩ : ∃ W1, W.alloc (.cells #[.int .u64 0, .int .u64 0, .int .u64 0, .int .u64 0] 28) = W1 := ⟨_, rfl⟩
  rw [hW1] at c0 c1 c2 c3 c4 c5 c6 c7 k0 N0 q1
  have f0 := N0.frozen 0
  have f1 := N0.frozen 1
  have f2 := N0.frozen 2
  have f3 := N0.frozen 3
  have x0 := N0.cell 0 _ rfl
  have x1 := N0.cell 1 _ rfl
  have x2 := N0.cell 2 _ rfl
  have x3 := N0.cell 3 _ rfl
  clear hs hB hnc hcm hx
  unfold wv
  obtain ⟨m, hm⟩ : ∃ m, lim x.1 = m := ⟨_, rfl⟩
  rw [hm] at c0 c1 c2 c3 ⊢
  have S := Lib.hid ((((N0.set 0 (.int .u64 (m 0))).set 1 (.int .u64 (m 1))).set 2 (.int .u64 (m 2))).set 3 (.int .u64 (m 3)))
  have Q := Lib.hid ((((q1.setCell (p := ⟨W.heap.size, 0, none⟩) (Nat.le_refl _) (.int .u64 (m 0))).setCell (p := ⟨W.heap.size, 1, none⟩) (Nat.le_refl _) (.int .u64 (m 1))).setCell (p := ⟨W.heap.size, 2, none⟩) (Nat.le_refl _) (.int .u64 (m 2))).setCell (p := ⟨W.heap.size, 3, none⟩) (Nat.le_refl _) (.int .u64 (m 3)))
  replace N0 := Lib.hid N0
  replace q1 := Lib.hid q1
  go_enter Tryz.func156, Tryz.ntmps156
  go_wp2_with fail
  refine bodyPost_ret (results_word (m := m) rfl rfl S.out) rfl ⟨rfl, Q.out⟩

set_option maxRecDepth 100000 in
set_option maxHeartbeats 1000000 in
theorem val_at (W : World) (B : Nat) (sv : Value) (l : List Sl) (hB : Has W B 29 #[sv]) (hs : SlotsAt W sv l) (i : Nat) (x : Sl) (hx : l[i]? = some x) :
    Calls Tryz.prog 157 #[.int .i64 (i : Int), .pointer (some ⟨B, 0, none⟩)] W fun e w' => e = .returned (wv x.2) ∧ Below W.heap.size W w' := by
  obtain ⟨a, cap, rfl, hnc, hcm⟩ := hs.shape
  have q1 := (Below.refl W.heap.size W).alloc (Nat.le_refl _) (.cells #[.int .u64 0, .int .u64 0, .int .u64 0, .int .u64 0] 28)
  obtain ⟨b, rfl, c0, c1, c2, c3, c4, c5, c6, c7⟩ := (hs.later q1).at hx
  have hi : i < l.length := (List.getElem?_eq_some_iff.1 hx).1
  have hiI : (i : Int) < (l.length : Int) := by omega
  have hi0 : (0 : Int) ≤ (i : Int) := by omega
  have k0 := (hB.later q1).cell 0 _ rfl
  have N0 := Has.new W 28 #[.int .u64 0, .int .u64 0, .int .u64 0, .int .u64 0]
  obtain ⟨W1, hW1⟩ : ∃ W1, W.alloc (.cells #[.int .u64 0, .int .u64 0, .int .u64 0, .int .u64 0] 28) = W1 := ⟨_, rfl⟩
  rw [hW1] at c0 c1 c2 c3 c4 c5 c6 c7 k0 N0 q1
  have f0 := N0.frozen 0
  have f1 := N0.frozen 1
  have f2 := N0.frozen 2
  have f3 := N0.frozen 3
  have x0 := N0.cell 0 _ rfl
  have x1 := N0.cell 1 _ rfl
  have x2 := N0.cell 2 _ rfl
  have x3 := N0.cell 3 _ rfl
  clear hs hB hnc hcm hx
  unfold wv
  obtain ⟨m, hm⟩ : ∃ m, lim x.2 = m := ⟨_, rfl⟩
  rw [hm] at c4 c5 c6 c7 ⊢
  have S := Lib.hid ((((N0.set 0 (.int .u64 (m 0))).set 1 (.int .u64 (m 1))).set 2 (.int .u64 (m 2))).set 3 (.int .u64 (m 3)))
  have Q := Lib.hid ((((q1.setCell (p := ⟨W.heap.size, 0, none⟩) (Nat.le_refl _) (.int .u64 (m 0))).setCell (p := ⟨W.heap.size, 1, none⟩) (Nat.le_refl _) (.int .u64 (m 1))).setCell (p := ⟨W.heap.size, 2, none⟩) (Nat.le_refl _) (.int .u64 (m 2))).setCell (p := ⟨W.heap.size, 3, none⟩) (Nat.le_refl _) (.int .u64 (m 3)))
  replace N0 := Lib.hid N0
  replace q1 := Lib.hid q1
  go_enter Tryz.func157, Tryz.ntmps157
  go_wp2_with fail
  refine bodyPost_ret (results_word (m := m) rfl rfl S.out) rfl ⟨rfl, Q.out⟩

/-- A table of slots that lie in a box. -/
abbrev tabV (n : Nat) (B : Nat) : Value := .agg #[.int .i64 (n : Int), .func (.func 156) #[] #[.pointer (some ⟨B, 0, none⟩)], .func (.func 157) #[] #[.pointer (some ⟨B, 0, none⟩)], .func (.func 158) #[] #[]]
set_option maxRecDepth 100000 in
set_option maxHeartbeats 1000000 in
theorem slots_any (W : World) (sv : Value) (l : List Sl) (hs : SlotsAt W sv l) :
    Calls Tryz.prog 145 #[sv] W fun e w' => ∃ B, e = .returned (tabV l.length B) ∧ W.heap.size ≤ B ∧ Has w' B 29 #[sv] ∧ Below W.heap.size W w' := by
  obtain ⟨a, cap, rfl, hnc, hcm⟩ := hs.shape
  generalize l.length = n at *
  clear hs hnc hcm
  have L0 := (Has.new W 29 #[.slice a n cap]).alloc (.cells #[.int .i64 0, .nilFunc, .nilFunc, .nilFunc] 176)
  have N0 := Has.new (W.alloc (.cells #[.slice a n cap] 29)) 176 #[.int .i64 0, .nilFunc, .nilFunc, .nilFunc]
  simp only [World.size_alloc] at N0
  have Q := ((Below.refl W.heap.size W).alloc (Nat.le_refl _) (.cells #[.slice a n cap] 29)).alloc (by simp) (.cells #[.int .i64 0, .nilFunc, .nilFunc, .nilFunc] 176)
  obtain ⟨W1, hW1⟩ : ∃ W1, (W.alloc (.cells #[.slice a n cap] 29)).alloc (.cells #[.int .i64 0, .nilFunc, .nilFunc, .nilFunc] 176) = W1 := ⟨_, rfl⟩
  rw [hW1] at L0 N0 Q
  have k0 := L0.cell 0 _ rfl
  have x0 := N0.cell 0 _ rfl
  have x1 := N0.cell 1 _ rfl
  have x2 := N0.cell 2 _ rfl
  have x3 := N0.cell 3 _ rfl
  have f0 := N0.frozen 0
  have f1 := N0.frozen 1
  have f2 := N0.frozen 2
  have f3 := N0.frozen 3
  have S := ((((N0.set 0 (.int .i64 (n : Int))).set 1 (.func (.func 156) #[] #[.pointer (some ⟨W.heap.size, 0, none⟩)])).set 2 (.func (.func 157) #[] #[.pointer (some ⟨W.heap.size, 0, none⟩)])).set 3 (.func (.func 158) #[] #[]))
  have z0 := Lib.hid (S.cell 0 _ rfl)
  have z1 := Lib.hid (S.cell 1 _ rfl)
  have z2 := Lib.hid (S.cell 2 _ rfl)
  have z3 := Lib.hid (S.cell 3 _ rfl)
  have HL := Lib.hid ((((L0.other (p := ⟨W.heap.size + 1, 0, none⟩) (by simp) (.int .i64 (n : Int))).other (p := ⟨W.heap.size + 1, 1, none⟩) (by simp) (.func (.func 156) #[] #[.pointer (some ⟨W.heap.size, 0, none⟩)])).other (p := ⟨W.heap.size + 1, 2, none⟩) (by simp) (.func (.func 157) #[] #[.pointer (some ⟨W.heap.size, 0, none⟩)])).other (p := ⟨W.heap.size + 1, 3, none⟩) (by simp) (.func (.func 158) #[] #[]))
  have HQ := Lib.hid ((((Q.setCell (p := ⟨W.heap.size + 1, 0, none⟩) (by simp) (.int .i64 (n : Int))).setCell (p := ⟨W.heap.size + 1, 1, none⟩) (by simp) (.func (.func 156) #[] #[.pointer (some ⟨W.heap.size, 0, none⟩)])).setCell (p := ⟨W.heap.size + 1, 2, none⟩) (by simp) (.func (.func 157) #[] #[.pointer (some ⟨W.heap.size, 0, none⟩)])).setCell (p := ⟨W.heap.size + 1, 3, none⟩) (by simp) (.func (.func 158) #[] #[]))
  clear S Q
  replace L0 := Lib.hid L0
  replace N0 := Lib.hid N0
  go_enter Tryz.func145, Tryz.ntmps145
  go_wp2_with fail
  replace z0 := z0.out
  replace z1 := z1.out
  replace z2 := z2.out
  replace z3 := z3.out
  refine bodyPost_ret (v := tabV n W.heap.size) (by simp [results, Tryz.results145, go_sem, z0, z1, z2, z3]) rfl ⟨W.heap.size, rfl, Nat.le_refl _, HL.out, HQ.out⟩

theorem Ext.at {W : World} {z : Ext W} {P : Program} {f : FuncId} {args : Array Value} {v : Value} (h : Calls P f args z.w fun e w' => e = .returned v ∧ Below z.w.heap.size z.w w') : Calls P f args z.w fun e w' => e = .returned v ∧ ∃ x : Ext W, w' = x.w :=
  h.mono fun _ w' ⟨h1, h2⟩ => ⟨h1, ⟨w', z.below.trans (h2.mono z.below.size)⟩, rfl⟩
/-- Do keys rise? -/
noncomputable def riseB (l : List Sl) : Bool := @decide (Rise l) (Classical.propDecidable _)
theorem riseB_iff (l : List Sl) : riseB l = true ↔ Rise l := by unfold riseB; exact @decide_eq_true_iff _ (Classical.propDecidable _)
theorem riseB_false {l : List Sl} (h : ¬ Rise l) : riseB l = false := by
  rcases hb : riseB l with _ | _
  · rfl
  · exact absurd ((riseB_iff l).1 hb) h
theorem rise_at {l : List Sl} : Rise l ↔ ∀ (i : Nat) (x y : Sl), l[i]? = some x → l[i + 1]? = some y → x.1 < y.1 := by
  constructor
  · intro h i x y hx hy
    have := List.pairwise_iff_getElem.1 h i (i + 1) (List.getElem?_eq_some_iff.1 hx).1 (List.getElem?_eq_some_iff.1 hy).1 (by omega)
    rw [(List.getElem?_eq_some_iff.1 hx).2, (List.getElem?_eq_some_iff.1 hy).2] at this
    exact this
  · induction l with
    | nil => intro _; exact List.Pairwise.nil
    | cons x r ih =>
      intro h
      have hr := ih (fun i a b ha hb => h (i + 1) a b (by simpa using ha) (by simpa using hb))
      refine List.pairwise_cons.2 ⟨fun y hy => ?_, hr⟩
      cases r with
      | nil => cases hy
      | cons z r =>
        have hz := h 0 x z rfl rfl
        rcases List.mem_cons.1 hy with rfl | hy
        · exact hz
        · have := (List.pairwise_cons.1 hr).1 y hy
          omega
/-- How a table's box lies. -/
theorem wcmp_ge (a b : Nat) : (0 ≤ wcmp a b ↔ b ≤ a) := by
  unfold wcmp
  split
  · constructor <;> intro <;> omega
  · split <;> constructor <;> intro <;> omega
set_option maxRecDepth 100000 in
set_option maxHeartbeats 4000000 in
theorem rises_any (W : World) (B : Nat) (sv : Value) (l : List Sl) (hB : Has W B 29 #[sv]) (hs : SlotsAt W sv l) :
    Calls Tryz.prog 146 #[tabV l.length B] W fun e w' => e = .returned (.bool (riseB l)) ∧ Below W.heap.size W w' := by
  have hmx : Tryz.prog.follows .mixedOrders = true := by kernel_rfl
  obtain ⟨a, cap, _, hnc, hcm⟩ := hs.shape
  have LB := Has.new W 176 #[.int .i64 (l.length : Int), .func (.func 156) #[] #[.pointer (some ⟨B, 0, none⟩)], .func (.func 157) #[] #[.pointer (some ⟨B, 0, none⟩)], .func (.func 158) #[] #[]]
  have Q := (Below.refl W.heap.size W).alloc (Nat.le_refl _) (.cells #[.int .i64 (l.length : Int), .func (.func 156) #[] #[.pointer (some ⟨B, 0, none⟩)], .func (.func 157) #[] #[.pointer (some ⟨B, 0, none⟩)], .func (.func 158) #[] #[]] 176)
  obtain ⟨W1, hW1⟩ : ∃ W1, W.alloc (.cells #[.int .i64 (l.length : Int), .func (.func 156) #[] #[.pointer (some ⟨B, 0, none⟩)], .func (.func 157) #[] #[.pointer (some ⟨B, 0, none⟩)], .func (.func 158) #[] #[]] 176) = W1 := ⟨_, rfl⟩
  rw [hW1] at LB Q
  have HB := Lib.hid hB
  have HS := Lib.hid hs
  have HL := Lib.hid LB
  have HQ := Lib.hid Q
  have hlc := Lib.hid (Nat.le_trans hnc hcm)
  clear hB hs LB Q hnc hcm
  obtain ⟨n, hn⟩ : ∃ n, l.length = n := ⟨_, rfl⟩
  rw [hn] at HL hlc hW1 ⊢
  have HN := Lib.hid hn
  clear hn
  go_enter Tryz.func146, Tryz.ntmps146
  go_wp2_with fail
  clear hW1
  go_loopw [3] (fun i wr => ∃ k : Nat, 1 ≤ k ∧ (k ≤ n ∨ k = 1) ∧ i = .int .i64 (k : Int) ∧ (∀ (j : Nat) (x y : Sl), j + 1 < k → l[j]? = some x → l[j + 1]? = some y → x.1 < y.1) ∧ Below W1.heap.size W1 wr) (fun i _ => n - (intOf i).toNat)
  case atStart => exact ⟨1, by omega, .inr rfl, rfl, fun j x y h => absurd h (by omega), Below.refl _ _⟩
  case round =>
    obtain ⟨k, hk1, hk, rfl, hlt, hq⟩ := hrel
    have HLT := Lib.hid hlt
    have HQ2 := Lib.hid hq
    have k0 := (HL.out.later hq).cell 0 _ rfl
    clear hlt hq
    by_cases hkn : k < n
    · have hknI : (k : Int) < (n : Int) := by omega
      have hk1I : (1 : Int) ≤ (k : Int) := by omega
      obtain ⟨x, hx⟩ : ∃ x, l[k - 1]? = some x := ⟨_, List.getElem?_eq_getElem (by have := HN.out; omega)⟩
      obtain ⟨y, hy⟩ : ∃ y, l[k]? = some y := ⟨_, List.getElem?_eq_getElem (by have := HN.out; omega)⟩
      have QW := Lib.hid (HQ.out.trans (HQ2.out.mono HQ.out.size))
      have wx := HS.out.wide hx
      have wy := HS.out.wide hy
      have K1 := Lib.hid (fun z : Ext wr => Ext.at (key_at z.w B sv l (HB.out.later (QW.out.trans (z.below.mono QW.out.size))) (HS.out.later (QW.out.trans (z.below.mono QW.out.size))) (k - 1) x hx))
      have K2 := Lib.hid (fun z : Ext wr => Ext.at (key_at z.w B sv l (HB.out.later (QW.out.trans (z.below.mono QW.out.size))) (HS.out.later (QW.out.trans (z.below.mono QW.out.size))) k y hy))
      have K3 := Lib.hid (cmp_ret x.1 y.1 wx.1 wy.1)
      rw [show ((k - 1 : Nat) : Int) = (k : Int) - 1 by omega] at K1
      have j1 : ∀ z : Ext wr, z.w.cell? ⟨W.heap.size, 1, none⟩ = some (.func (.func 156) #[] #[.pointer (some ⟨B, 0, none⟩)]) := fun z => ((HL.out.later HQ2.out).later z.below).cell 1 _ rfl
      have j3 : ∀ z : Ext wr, z.w.cell? ⟨W.heap.size, 3, none⟩ = some (.func (.func 158) #[] #[]) := fun z => ((HL.out.later HQ2.out).later z.below).cell 3 _ rfl
      have HK := Lib.hid (And.intro hk1 hkn)
      have HX := Lib.hid (And.intro hx hy)
      clear hk1 hk hkn hx hy wx wy
      have w1 : wrap64 ((k : Int) - 1) = (k : Int) - 1 := wrapIn _ (by have := hlc.out; have := HK.out; omega)
      have hkb : (k : Int) ≤ 9223372036854775806 := by have := hlc.out; have := HK.out; omega
      have hcge := wcmp_ge x.1 y.1
      generalize wcmp x.1 y.1 = c at *
      generalize wv x.1 = vx at *
      generalize wv y.1 = vy at *
      have hcc := Lib.hid hcge
      clear hcge
      by_cases hc0 : 0 ≤ c
      · go_wp2_with fail
        refine wp_region_quietL (C := Grows wr) hmx (by kernel_rfl) (grows_refl wr) ?_
        repeat (go_big_quiet_step (first | (with_reducible exact K1.out _) | (with_reducible exact K2.out _) | (with_reducible exact Ret.at K3.out _)))
        refine wpQuiet_nil ?_
        rintro _ ⟨z, rfl⟩
        have hno := Lib.hid (show riseB l = false from riseB_false (fun hr => by
          have h1 := rise_at.1 hr (k - 1) x y HX.out.1 (by rw [show k - 1 + 1 = k by have := HK.out; omega]; exact HX.out.2)
          have := hcc.out.1 hc0
          omega))
        have HE := Lib.hid (QW.out.trans (z.below.mono QW.out.size))
        clear j1 j3 K1 K2 K3 k0
        go_wp2_with fail
        go_ret
        exact ⟨by rw [hno.out]; rfl, HE.out⟩
      · go_wp2_with fail
        refine wp_region_quietL (C := Grows wr) hmx (by kernel_rfl) (grows_refl wr) ?_
        repeat (go_big_quiet_step (first | (with_reducible exact K1.out _) | (with_reducible exact K2.out _) | (with_reducible exact Ret.at K3.out _)))
        refine wpQuiet_nil ?_
        rintro _ ⟨z, rfl⟩
        have HE := Lib.hid (HQ2.out.trans (z.below.mono HQ2.out.size))
        have hlt := Lib.hid (show x.1 < y.1 from Nat.lt_of_not_le (fun h => by have := hcc.out.2 h; omega))
        clear j1 j3 K1 K2 K3 k0
        go_wp2_with fail
        go_roundw
        case rel =>
          refine ⟨k + 1, by omega, .inl (by have := HK.out; omega), by simp, fun j x' y' hj h1 h2 => ?_, HE.out⟩
          by_cases hjk : j + 1 < k
          · exact HLT.out j x' y' hjk h1 h2
          · have hjk' : j = k - 1 := by omega
            have := HK.out
            subst hjk'
            rw [HX.out.1] at h1
            rw [show k - 1 + 1 = k by omega, HX.out.2] at h2
            injection h1 with h1
            injection h2 with h2
            subst h1 h2
            exact hlt.out
        case measure => have := HK.out; simp [intOf]; omega
    · have hknI : ¬ (k : Int) < (n : Int) := by omega
      have hyes := Lib.hid (show riseB l = true from (riseB_iff l).2 (rise_at.2 (fun j x y hx hy => HLT.out j x y (by
        have := (List.getElem?_eq_some_iff.1 hy).1
        have := HN.out
        omega) hx hy)))
      have HE := Lib.hid (HQ.out.trans (HQ2.out.mono HQ.out.size))
      go_wp2_with fail
      go_ret
      exact ⟨by rw [hyes.out]; rfl, HE.out⟩
end Go.Proofs.YtadfkiebblmfkaaGreatDoor

import Derived.Test.YtbbpmcebakckaaaGreatDoorU24
import Derived.Test.YtbbpmcebakckaaaGreatDoorU25
import Derived.Test.YtbbpmcebakckaaaGreatDoorVRfD
import Derived.Deep.CutRange
/- What RlpTells makes of items: boxes and rows in a drawn order. Conditions: none. -/
namespace Go.Proofs.YtbbpmcebakckaaaGreatDoor
open Go Go.RowKit

theorem Ext.at' {W : World} {z : Ext W} {P : Program} {f : FuncId} {args : Array Value} {v : Value} (h : Calls P f args z.w fun e w' => e = .returned v ∧ Below z.w.heap.size z.w w') : Calls P f args z.w fun e w' => e = .returned v ∧ ∃ x : Ext W, w' = x.w :=
  h.mono fun _ w' ⟨h1, h2⟩ => ⟨h1, ⟨w', z.below.trans (h2.mono z.below.size)⟩, rfl⟩
theorem ItemAt.later' {W X : World} {t : It} {v : Value} (h : ItemAt W t v) (hb : Below W.heap.size W X) : ItemAt X t v := ItemAt.later hb h
theorem big256 : (1000001 : Nat) ≤ 256 ^ 8 := by decide
theorem enc_le (l : Bool) (b : ByteArray) (ks : List It) (hb : b.size ≤ 1000000) (hk : (encL ks).length ≤ 1000000) : (encI (.mk l b ks)).length ≤ 9 + b.size + (encL ks).length := by
  have hbs : b.data.toList.length = b.size := by simp
  have h1 := headL_len (k := 192) (n := (encL ks).length) (Nat.lt_of_lt_of_le (by omega) big256)
  have h2 := headL_len (k := 128) (n := b.data.toList.length) (Nat.lt_of_lt_of_le (by omega) big256)
  rw [encI]
  split
  · rw [List.length_append]
    omega
  · split
    · omega
    · rw [List.length_append]
      omega
/-- Lists with one item more, or none. -/
theorem odd_item {W : World} {ti : It} {v0 v1 v2 : Value} {Bk k : Nat} {xB : ByteArray} (hi : ItemAt W ti (.agg #[v0, v1, v2])) (hB : Has W Bk 29 #[v0, v1, v2]) (hk : k ≤ 1) (hx : xB.size ≤ 400) (hib : okI ti = true ∧ countI ti ≤ 512 ∧ (encI ti).length ≤ 40448) (lb : Bool) :
    ∃ td : It, td.kids.length = k ∧ ItemAt W td (.agg #[.bool lb, .string xB, .slice (some ⟨Bk, 0, none⟩) k 1]) ∧ countI td ≤ 600 ∧ (encI td).length ≤ 41000 := by
  by_cases h0 : k = 0
  · subst h0
    refine ⟨.mk lb xB [], rfl, ?_, by simp [countI, countL], ?_⟩
    · unfold ItemAt
      exact ⟨_, _, rfl, by simp, by omega, .inl rfl⟩
    · have := enc_le lb xB [] (by omega) (by simp [encL])
      simp [encL] at this
      omega
  · obtain rfl : k = 1 := by omega
    refine ⟨.mk lb xB [ti], rfl, ?_, by simp [countI, countL]; omega, ?_⟩
    · unfold ItemAt
      refine ⟨_, _, rfl, by simp, by omega, .inr ⟨Bk, 0, rfl, ?_⟩⟩
      unfold KidsAt
      exact ⟨⟨v0, v1, v2, hB.cell 0 _ rfl, hB.cell 1 _ rfl, hB.cell 2 _ rfl, hi⟩, trivial⟩
    · have := enc_le lb xB [ti] (by omega) (by simp [encL]; omega)
      simp [encL] at this
      omega
theorem kids_two {W : World} {a b : It} {B : Nat} {u0 u1 u2 v0 v1 v2 : Value} (hB : Has W B 29 #[u0, u1, u2, v0, v1, v2]) (ha : ItemAt W a (.agg #[u0, u1, u2])) (hb : ItemAt W b (.agg #[v0, v1, v2])) : KidsIn W [a, b] (some ⟨B, 0, none⟩) := by
  refine .inr ⟨B, 0, rfl, ?_⟩
  unfold KidsAt
  refine ⟨⟨u0, u1, u2, hB.cell 0 _ rfl, hB.cell 1 _ rfl, hB.cell 2 _ rfl, ha⟩, ?_⟩
  unfold KidsAt
  exact ⟨⟨v0, v1, v2, hB.cell 3 _ rfl, hB.cell 4 _ rfl, hB.cell 5 _ rfl, hb⟩, trivial⟩
section
variable {W y z : World} {ic : Array Value} {k : Nat} {lb : Bool} {xB : ByteArray} {f : Nat → Bool} {g : Nat → Value}
abbrev oddC (lb : Bool) (xB : ByteArray) (B k : Nat) : Array Value := #[.bool lb, .string xB, .slice (some ⟨B, 0, none⟩) k 1]
/-- The row of one (3), its beginning (6), the list (7), its box (8), the store (9). -/
def OddU (W : World) (ic : Array Value) (k : Nat) (lb : Bool) (xB : ByteArray) (f : Nat → Bool) (g : Nat → Value) (y : World) : Prop :=
  Below W.heap.size W y ∧
  (f 3 = true → ∃ B, g 3 = .slice (some ⟨B, 0, none⟩) 1 1 ∧ Has y B 29 ic ∧ (f 6 = true → g 6 = .slice (some ⟨B, 0, none⟩) k 1) ∧ (f 7 = true → g 7 = .agg (oddC lb xB B k)) ∧ (f 9 = true → ∃ Bo, g 8 = .pointer (some ⟨Bo, 0, none⟩) ∧ Has y Bo 29 (oddC lb xB B k))) ∧
  (f 8 = true → f 9 = false → ∃ Bo, g 8 = .pointer (some ⟨Bo, 0, none⟩) ∧ W.heap.size ≤ Bo ∧ Has y Bo 29 #[.bool false, .string ⟨#[]⟩, .slice none 0 0] ∧ (f 3 = true → ∀ B, g 3 = .slice (some ⟨B, 0, none⟩) 1 1 → Bo ≠ B))
theorem OddU.later (h : OddU W ic k lb xB f g y) (hb : Below y.heap.size y z) : OddU W ic k lb xB f g z := by
  refine ⟨h.1.trans (hb.mono h.1.size), fun h3 => ?_, fun h8 h9 => ?_⟩
  · obtain ⟨B, e, hB, e6, e7, e9⟩ := h.2.1 h3
    exact ⟨B, e, hB.later hb, e6, e7, fun h => let ⟨Bo, e, hh⟩ := e9 h; ⟨Bo, e, hh.later hb⟩⟩
  · obtain ⟨Bo, e, h1, h2, h3⟩ := h.2.2 h8 h9
    exact ⟨Bo, e, h1, h2.later hb, h3⟩
theorem OddU.same {f' : Nat → Bool} {g' : Nat → Value} (h : OddU W ic k lb xB f g y) (h3 : f 3 = f' 3 ∧ g 3 = g' 3) (h6 : f 6 = f' 6 ∧ g 6 = g' 6) (h7 : f 7 = f' 7 ∧ g 7 = g' 7) (h8 : f 8 = f' 8 ∧ g 8 = g' 8) (h9 : f 9 = f' 9 ∧ g 9 = g' 9) : OddU W ic k lb xB f' g' y := by
  unfold OddU at h ⊢
  rw [h3.1, h3.2, h6.1, h6.2, h7.1, h7.2, h8.1, h8.2, h9.1] at h
  exact h
theorem OddU.start : OddU W ic k lb xB (fun _ => false) g { W with drawn := W.drawn + 1 } :=
  ⟨(Below.refl _ _).drew, fun e => by simp at e, fun e => by simp at e⟩
theorem ptr_inj {B C : Nat} (h : Value.pointer (some ⟨B, 0, none⟩) = .pointer (some ⟨C, 0, none⟩)) : B = C := by injection h with h; injection h with h; injection h
theorem sl_inj {B C n m : Nat} (h : Value.slice (some ⟨B, 0, none⟩) n m = .slice (some ⟨C, 0, none⟩) n m) : B = C := by injection h with h; injection h with h; injection h
theorem OddU.kid (h : OddU W ic k lb xB f g y) (h6 : f 6 = false) (h7 : f 7 = false) (h9 : f 9 = false) : OddU W ic k lb xB (upd f 3 true) (upd g 3 (.slice (some ⟨y.heap.size, 0, none⟩) 1 1)) (y.alloc (.cells ic 29)) := by
  have hb := (Below.refl y.heap.size y).alloc (Nat.le_refl _) (.cells ic 29)
  have e6 : upd f 3 true 6 = false := (upd_ne f true (by decide)).trans h6
  have e7 : upd f 3 true 7 = false := (upd_ne f true (by decide)).trans h7
  have e9 : upd f 3 true 9 = false := (upd_ne f true (by decide)).trans h9
  refine ⟨h.1.trans (hb.mono h.1.size), fun _ => ⟨y.heap.size, upd_self _ _ _, Has.new _ _ _, fun e => ?_, fun e => ?_, fun e => ?_⟩, fun h8 _ => ?_⟩
  · rw [e6] at e; cases e
  · rw [e7] at e; cases e
  · rw [e9] at e; cases e
  · rw [upd_ne f true (by decide)] at h8
    obtain ⟨Bo, e, j1, j2, j3⟩ := h.2.2 h8 h9
    refine ⟨Bo, (upd_ne g _ (by decide)).trans e, j1, j2.later hb, fun _ B hB => ?_⟩
    rw [upd_self] at hB
    have := sl_inj hB
    have := j2.lt
    omega
theorem OddU.cut {B : Nat} (h : OddU W ic k lb xB f g y) (h3 : f 3 = true) (h7 : f 7 = false) (h9 : f 9 = false) (e : g 3 = .slice (some ⟨B, 0, none⟩) 1 1) : OddU W ic k lb xB (upd f 6 true) (upd g 6 (.slice (some ⟨B, 0, none⟩) k 1)) y := by
  refine ⟨h.1, fun _ => ?_, fun h8 h9' => ?_⟩
  · obtain ⟨B', e', hB, _, _, _⟩ := h.2.1 h3
    obtain rfl := sl_inj (e.symm.trans e')
    refine ⟨B, (upd_ne g _ (by decide)).trans e, hB, fun _ => upd_self _ _ _, fun e => ?_, fun e => ?_⟩
    · rw [upd_ne f true (by decide), h7] at e; cases e
    · rw [upd_ne f true (by decide), h9] at e; cases e
  · rw [upd_ne f true (by decide)] at h8 h9'
    obtain ⟨Bo, e8, j1, j2, j3⟩ := h.2.2 h8 h9'
    refine ⟨Bo, (upd_ne g _ (by decide)).trans e8, j1, j2, fun _ B hB => j3 h3 B ?_⟩
    rw [upd_ne g _ (by decide)] at hB
    exact hB
theorem OddU.build {B : Nat} (h : OddU W ic k lb xB f g y) (h3 : f 3 = true) (h6 : f 6 = true) (h9 : f 9 = false) (e : g 3 = .slice (some ⟨B, 0, none⟩) 1 1) : OddU W ic k lb xB (upd f 7 true) (upd g 7 (.agg (oddC lb xB B k))) y := by
  refine ⟨h.1, fun _ => ?_, fun h8 h9' => ?_⟩
  · obtain ⟨B', e', hB, e6, _, _⟩ := h.2.1 h3
    obtain rfl := sl_inj (e.symm.trans e')
    refine ⟨B, (upd_ne g _ (by decide)).trans e, hB, fun _ => (upd_ne g _ (by decide)).trans (e6 h6), fun _ => upd_self _ _ _, fun e => ?_⟩
    rw [upd_ne f true (by decide), h9] at e; cases e
  · rw [upd_ne f true (by decide)] at h8 h9'
    obtain ⟨Bo, e8, j1, j2, j3⟩ := h.2.2 h8 h9'
    refine ⟨Bo, (upd_ne g _ (by decide)).trans e8, j1, j2, fun _ B hB => j3 h3 B ?_⟩
    rw [upd_ne g _ (by decide)] at hB
    exact hB
theorem OddU.box (h : OddU W ic k lb xB f g y) (h9 : f 9 = false) : OddU W ic k lb xB (upd f 8 true) (upd g 8 (.pointer (some ⟨y.heap.size, 0, none⟩))) (y.alloc (.cells #[.bool false, .string ⟨#[]⟩, .slice none 0 0] 29)) := by
  have hb := (Below.refl y.heap.size y).alloc (Nat.le_refl _) (.cells #[.bool false, .string ⟨#[]⟩, .slice none 0 0] 29)
  refine ⟨h.1.trans (hb.mono h.1.size), fun h3 => ?_, fun _ _ => ⟨y.heap.size, upd_self _ _ _, h.1.size, Has.new _ _ _, fun h3 B hB => ?_⟩⟩
  · rw [upd_ne f true (by decide)] at h3
    obtain ⟨B, e, hB, e6, e7, e9⟩ := h.2.1 h3
    refine ⟨B, (upd_ne g _ (by decide)).trans e, hB.later hb, fun h => (upd_ne g _ (by decide)).trans (e6 ((upd_ne f true (by decide)).symm.trans h)), fun h => (upd_ne g _ (by decide)).trans (e7 ((upd_ne f true (by decide)).symm.trans h)), fun e => ?_⟩
    rw [upd_ne f true (by decide), h9] at e; cases e
  · rw [upd_ne f true (by decide)] at h3
    rw [upd_ne g _ (by decide)] at hB
    obtain ⟨B', e, hB', _⟩ := h.2.1 h3
    have := sl_inj (hB.symm.trans e)
    have := hB'.lt
    omega
theorem OddU.store {B Bo : Nat} {u : Value} (h : OddU W ic k lb xB f g y) (h3 : f 3 = true) (h7 : f 7 = true) (h6 : f 6 = true) (h8 : f 8 = true) (h9 : f 9 = false) (e : g 3 = .slice (some ⟨B, 0, none⟩) 1 1) (eB : g 8 = .pointer (some ⟨Bo, 0, none⟩)) :
    OddU W ic k lb xB (upd f 9 true) (upd g 9 u) (((y.setCell ⟨Bo, 0, none⟩ (.bool lb)).setCell ⟨Bo, 1, none⟩ (.string xB)).setCell ⟨Bo, 2, none⟩ (.slice (some ⟨B, 0, none⟩) k 1)) := by
  obtain ⟨Bo', e8, j1, j2, j3⟩ := h.2.2 h8 h9
  obtain rfl := ptr_inj (eB.symm.trans e8)
  obtain ⟨B', e', hB, e6, e7, _⟩ := h.2.1 h3
  obtain rfl := sl_inj (e.symm.trans e')
  have hne : B ≠ Bo := fun q => j3 h3 B e q.symm
  refine ⟨((h.1.setCell (p := ⟨Bo, 0, none⟩) j1 _).setCell (p := ⟨Bo, 1, none⟩) j1 _).setCell (p := ⟨Bo, 2, none⟩) j1 _, fun _ => ⟨B, (upd_ne g _ (by decide)).trans e, ((hB.other (p := ⟨Bo, 0, none⟩) hne _).other (p := ⟨Bo, 1, none⟩) hne _).other (p := ⟨Bo, 2, none⟩) hne _, fun _ => (upd_ne g _ (by decide)).trans (e6 h6), fun _ => (upd_ne g _ (by decide)).trans (e7 h7), fun _ => ⟨Bo, (upd_ne g _ (by decide)).trans eB, ?_⟩⟩, fun _ q => ?_⟩
  · exact ((j2.set 0 (.bool lb)).set 1 (.string xB)).set 2 (.slice (some ⟨B, 0, none⟩) k 1)
  · rw [upd_self] at q; cases q
theorem OddU.done (h : OddU W ic k lb xB f g y) (h3 : f 3 = true) (h6 : f 6 = true) (h7 : f 7 = true) (h9 : f 9 = true) :
    ∃ Bk Bo, g 3 = .slice (some ⟨Bk, 0, none⟩) 1 1 ∧ g 6 = .slice (some ⟨Bk, 0, none⟩) k 1 ∧ g 7 = .agg (oddC lb xB Bk k) ∧ g 8 = .pointer (some ⟨Bo, 0, none⟩) ∧ Has y Bk 29 ic ∧ Has y Bo 29 (oddC lb xB Bk k) := by
  obtain ⟨B, e, hB, e6, e7, e9⟩ := h.2.1 h3
  obtain ⟨Bo, e8, hBo⟩ := e9 h9
  exact ⟨B, Bo, e, e6 h6, e7 h7, e8, hB, hBo⟩
end
section
variable {W y z : World} {ti td : It} {fiv : Option Addr → Nat → Array Value} {tw : Array Value} {f : Nat → Bool} {g : Nat → Value}
/-- The row of two (8), the list of it (9), the row of five (10). -/
def FivU (W : World) (ti td : It) (fiv : Option Addr → Nat → Array Value) (tw : Array Value) (f : Nat → Bool) (g : Nat → Value) (y : World) : Prop :=
  Below W.heap.size W y ∧ (f 8 = true → f 9 = false → ∃ B, g 8 = .slice (some ⟨B, 0, none⟩) 2 2 ∧ Has y B 29 tw) ∧
  (f 9 = true → f 10 = false → ∃ la lc, g 9 = .agg #[.bool true, .string ⟨#[]⟩, .slice la 2 lc] ∧ ItemAt y (.mk true ⟨#[]⟩ [ti, td]) (g 9)) ∧
  (f 10 = true → ∃ B la lc, g 10 = .slice (some ⟨B, 0, none⟩) 5 5 ∧ Has y B 29 (fiv la lc) ∧ ItemAt y (.mk true ⟨#[]⟩ [ti, td]) (.agg #[.bool true, .string ⟨#[]⟩, .slice la 2 lc]))
theorem FivU.later (h : FivU W ti td fiv tw f g y) (hb : Below y.heap.size y z) : FivU W ti td fiv tw f g z := by
  refine ⟨h.1.trans (hb.mono h.1.size), fun a b => ?_, fun a b => ?_, fun a => ?_⟩
  · obtain ⟨B, e, k⟩ := h.2.1 a b
    exact ⟨B, e, k.later hb⟩
  · obtain ⟨la, lc, e, k⟩ := h.2.2.1 a b
    exact ⟨la, lc, e, k.later' hb⟩
  · obtain ⟨B, la, lc, e, k, l⟩ := h.2.2.2 a
    exact ⟨B, la, lc, e, k.later hb, l.later' hb⟩
theorem FivU.same {f' : Nat → Bool} {g' : Nat → Value} (h : FivU W ti td fiv tw f g y) (h8 : f 8 = f' 8 ∧ g 8 = g' 8) (h9 : f 9 = f' 9 ∧ g 9 = g' 9) (h10 : f 10 = f' 10 ∧ g 10 = g' 10) : FivU W ti td fiv tw f' g' y := by
  unfold FivU at h ⊢
  rw [h8.1, h8.2, h9.1, h9.2, h10.1, h10.2] at h
  exact h
theorem FivU.start : FivU W ti td fiv tw (fun _ => false) g { W with drawn := W.drawn + 1 } :=
  ⟨(Below.refl _ _).drew, fun e => by simp at e, fun e => by simp at e, fun e => by simp at e⟩
theorem FivU.two (h : FivU W ti td fiv tw f g y) (h9 : f 9 = false) (h10 : f 10 = false) : FivU W ti td fiv tw (upd f 8 true) (upd g 8 (.slice (some ⟨y.heap.size, 0, none⟩) 2 2)) (y.alloc (.cells tw 29)) := by
  have hb := (Below.refl y.heap.size y).alloc (Nat.le_refl _) (.cells tw 29)
  refine ⟨h.1.trans (hb.mono h.1.size), fun _ _ => ⟨y.heap.size, upd_self _ _ _, Has.new _ _ _⟩, fun e => ?_, fun e => ?_⟩
  · rw [upd_ne f true (by decide), h9] at e; cases e
  · rw [upd_ne f true (by decide), h10] at e; cases e
theorem FivU.list {y2 : World} {vl : Value} (h : FivU W ti td fiv tw f g y) (h8 : f 8 = true) (h10 : f 10 = false) (hb : Below y.heap.size y y2) (hit : ItemAt y2 (.mk true ⟨#[]⟩ [ti, td]) vl) : FivU W ti td fiv tw (upd f 9 true) (upd g 9 vl) y2 := by
  refine ⟨h.1.trans (hb.mono h.1.size), fun _ e => ?_, fun _ _ => ?_, fun e => ?_⟩
  · rw [upd_self] at e; cases e
  · obtain ⟨a, c, e, _⟩ := hit.open
    rw [upd_self]
    exact ⟨a, c, e, hit⟩
  · rw [upd_ne f true (by decide), h10] at e; cases e
theorem FivU.five {la : Option Addr} {lc : Nat} (h : FivU W ti td fiv tw f g y) (h9 : f 9 = true) (h10 : f 10 = false) (e : g 9 = .agg #[.bool true, .string ⟨#[]⟩, .slice la 2 lc]) : FivU W ti td fiv tw (upd f 10 true) (upd g 10 (.slice (some ⟨y.heap.size, 0, none⟩) 5 5)) (y.alloc (.cells (fiv la lc) 29)) := by
  have hb := (Below.refl y.heap.size y).alloc (Nat.le_refl _) (.cells (fiv la lc) 29)
  obtain ⟨_, _, _, k⟩ := h.2.2.1 h9 h10
  rw [e] at k
  refine ⟨h.1.trans (hb.mono h.1.size), fun _ e => ?_, fun _ e => ?_, fun _ => ⟨y.heap.size, la, lc, upd_self _ _ _, Has.new _ _ _, k.later' hb⟩⟩
  · rw [upd_ne f true (by decide), h9] at e; cases e
  · rw [upd_self] at e; cases e
end
theorem item_parts {X : World} {t : It} {v0 v1 v2 : Value} (h : ItemAt X t (.agg #[v0, v1, v2])) : ∃ a c, v0 = .bool t.list ∧ v1 = .string t.bytes ∧ v2 = .slice a t.kids.length c := by
  obtain ⟨a, c, e, _⟩ := h.open
  injection e with e
  injection e with e
  injection e with e0 e
  injection e with e1 e
  injection e with e2 e
  exact ⟨a, c, e0, e1, e2⟩
theorem five_items {X : World} {B : Nat} {ti td tl : It} {i0 i1 i2 d0 d1 d2 l0 l1 l2 : Value} {xB : ByteArray} {wn : Nat}
    (hB : Has X B 29 #[i0, i1, i2, d0, d1, d2, .bool false, .string xB, .slice none 0 0, .bool false, .string ⟨(digs wn).toArray⟩, .slice none 0 0, l0, l1, l2])
    (hi : ItemAt X ti (.agg #[i0, i1, i2])) (hd : ItemAt X td (.agg #[d0, d1, d2])) (hl : ItemAt X tl (.agg #[l0, l1, l2])) (hib : countI ti ≤ 512 ∧ (encI ti).length ≤ 40448) (hdb : countI td ≤ 600 ∧ (encI td).length ≤ 41000) (hlb : countI tl ≤ 2000 ∧ (encI tl).length ≤ 100000) (hx : xB.size ≤ 400) (hw : W256 wn)
    (j : Nat) (hj : j < 5) : ∃ (t : It) (a : Option Addr) (c : Nat), X.cell? ⟨B, j * 3, none⟩ = some (.bool t.list) ∧ X.cell? ⟨B, j * 3 + 1, none⟩ = some (.string t.bytes) ∧ X.cell? ⟨B, j * 3 + 2, none⟩ = some (.slice a t.kids.length c) ∧ ItemAt X t (.agg #[.bool t.list, .string t.bytes, .slice a t.kids.length c]) ∧ countI t ≤ 100000 ∧ (encI t).length ≤ 1000000 := by
  have leaf : ∀ b : ByteArray, b.size ≤ 1000 → ItemAt X (.mk false b []) (.agg #[.bool false, .string b, .slice none 0 0]) ∧ countI (.mk false b []) ≤ 100000 ∧ (encI (.mk false b [])).length ≤ 1000000 := fun b hb => by
    refine ⟨?_, by simp [countI, countL], ?_⟩
    · unfold ItemAt
      exact ⟨none, 0, rfl, by simp, by omega, .inl rfl⟩
    · have := enc_le false b [] (by omega) (by simp [encL])
      simp [encL] at this
      omega
  obtain ⟨ia, ic, rfl, rfl, rfl⟩ := item_parts hi
  obtain ⟨da, dc, rfl, rfl, rfl⟩ := item_parts hd
  obtain ⟨la, lc, rfl, rfl, rfl⟩ := item_parts hl
  obtain rfl | rfl | rfl | rfl | rfl : j = 0 ∨ j = 1 ∨ j = 2 ∨ j = 3 ∨ j = 4 := by omega
  · exact ⟨ti, ia, ic, hB.cell 0 _ rfl, hB.cell 1 _ rfl, hB.cell 2 _ rfl, hi, by omega, by omega⟩
  · exact ⟨td, da, dc, hB.cell 3 _ rfl, hB.cell 4 _ rfl, hB.cell 5 _ rfl, hd, by omega, by omega⟩
  · obtain ⟨h1, h2, h3⟩ := leaf xB (by omega)
    exact ⟨.mk false xB [], none, 0, hB.cell 6 _ rfl, hB.cell 7 _ rfl, hB.cell 8 _ rfl, h1, h2, h3⟩
  · obtain ⟨h1, h2, h3⟩ := leaf ⟨(digs wn).toArray⟩ (by have h := digs_w hw; show (digs wn).toArray.size ≤ 1000; rw [List.size_toArray]; omega)
    exact ⟨.mk false ⟨(digs wn).toArray⟩ [], none, 0, hB.cell 9 _ rfl, hB.cell 10 _ rfl, hB.cell 11 _ rfl, h1, h2, h3⟩
  · exact ⟨tl, la, lc, hB.cell 12 _ rfl, hB.cell 13 _ rfl, hB.cell 14 _ rfl, hl, by omega, by omega⟩
theorem two_bounds {ti td : It} (hib : countI ti ≤ 512 ∧ (encI ti).length ≤ 40448) (hdb : countI td ≤ 600 ∧ (encI td).length ≤ 41000) : countI (.mk true ⟨#[]⟩ [ti, td]) ≤ 2000 ∧ (encI (.mk true ⟨#[]⟩ [ti, td])).length ≤ 100000 := by
  refine ⟨by simp [countI, countL]; omega, ?_⟩
  have := enc_le true ⟨#[]⟩ [ti, td] (by decide) (by simp [encL]; omega)
  have h0 : (⟨#[]⟩ : ByteArray).size = 0 := rfl
  simp [encL] at this
  omega
section
variable {W y z : World} {ti : It} {tw : Array Value} {f : Nat → Bool} {g : Nat → Value}
/-- A row of two (17), the list of it (18), another such row (21), its list (22). -/
def TwiU (W : World) (ti : It) (tw : Array Value) (f : Nat → Bool) (g : Nat → Value) (y : World) : Prop :=
  Below W.heap.size W y ∧ (f 17 = true → f 18 = false → ∃ B, g 17 = .slice (some ⟨B, 0, none⟩) 2 2 ∧ Has y B 29 tw) ∧
  (f 18 = true → ∃ la lc, g 18 = .agg #[.bool true, .string ⟨#[]⟩, .slice la 2 lc] ∧ ItemAt y (.mk true ⟨#[]⟩ [ti, ti]) (g 18)) ∧
  (f 21 = true → f 22 = false → ∃ B, g 21 = .slice (some ⟨B, 0, none⟩) 2 2 ∧ Has y B 29 tw) ∧
  (f 22 = true → ∃ B, g 22 = .agg #[.bool true, .string ⟨#[]⟩, .slice (some ⟨B, 0, none⟩) 2 2] ∧ Has y B 29 tw)
theorem TwiU.later (h : TwiU W ti tw f g y) (hb : Below y.heap.size y z) : TwiU W ti tw f g z := by
  refine ⟨h.1.trans (hb.mono h.1.size), fun a b => ?_, fun a => ?_, fun a b => ?_, fun a => ?_⟩
  · obtain ⟨B, e, k⟩ := h.2.1 a b
    exact ⟨B, e, k.later hb⟩
  · obtain ⟨la, lc, e, k⟩ := h.2.2.1 a
    exact ⟨la, lc, e, k.later' hb⟩
  · obtain ⟨B, e, k⟩ := h.2.2.2.1 a b
    exact ⟨B, e, k.later hb⟩
  · obtain ⟨B, e, k⟩ := h.2.2.2.2 a
    exact ⟨B, e, k.later hb⟩
theorem TwiU.same {f' : Nat → Bool} {g' : Nat → Value} (h : TwiU W ti tw f g y) (h1 : f 17 = f' 17 ∧ g 17 = g' 17) (h2 : f 18 = f' 18 ∧ g 18 = g' 18) (h3 : f 21 = f' 21 ∧ g 21 = g' 21) (h4 : f 22 = f' 22 ∧ g 22 = g' 22) : TwiU W ti tw f' g' y := by
  unfold TwiU at h ⊢
  rw [h1.1, h1.2, h2.1, h2.2, h3.1, h3.2, h4.1, h4.2] at h
  exact h
theorem TwiU.start : TwiU W ti tw (fun _ => false) g { W with drawn := W.drawn + 1 } :=
  ⟨(Below.refl _ _).drew, fun e => by simp at e, fun e => by simp at e, fun e => by simp at e, fun e => by simp at e⟩
theorem TwiU.put (h : TwiU W ti tw f g y) (i : Nat) (u : Value) (hb : Below y.heap.size y z)
    (k1 : 17 = i → ∃ B, u = .slice (some ⟨B, 0, none⟩) 2 2 ∧ Has z B 29 tw) (k2 : 18 = i → ∃ la lc, u = .agg #[.bool true, .string ⟨#[]⟩, .slice la 2 lc] ∧ ItemAt z (.mk true ⟨#[]⟩ [ti, ti]) u)
    (k3 : 21 = i → ∃ B, u = .slice (some ⟨B, 0, none⟩) 2 2 ∧ Has z B 29 tw) (k4 : 22 = i → ∃ B, u = .agg #[.bool true, .string ⟨#[]⟩, .slice (some ⟨B, 0, none⟩) 2 2] ∧ Has z B 29 tw) : TwiU W ti tw (upd f i true) (upd g i u) z := by
  have h := h.later hb
  have key : ∀ (j : Nat), j ≠ i → upd f i true j = f j ∧ upd g i u j = g j := fun j hj => ⟨upd_ne f true hj, upd_ne g u hj⟩
  refine ⟨h.1, fun a b => ?_, fun a => ?_, fun a b => ?_, fun a => ?_⟩
  · by_cases hj : 17 = i
    · subst hj; rw [upd_self]; exact k1 rfl
    · rw [(key 17 hj).1] at a
      rw [(key 17 hj).2]
      refine h.2.1 a ?_
      by_cases h8 : 18 = i
      · subst h8; rw [upd_self] at b; cases b
      · rw [(key 18 h8).1] at b; exact b
  · by_cases hj : 18 = i
    · subst hj; rw [upd_self]; exact k2 rfl
    · rw [(key 18 hj).1] at a
      rw [(key 18 hj).2]
      exact h.2.2.1 a
  · by_cases hj : 21 = i
    · subst hj; rw [upd_self]; exact k3 rfl
    · rw [(key 21 hj).1] at a
      rw [(key 21 hj).2]
      refine h.2.2.2.1 a ?_
      by_cases h8 : 22 = i
      · subst h8; rw [upd_self] at b; cases b
      · rw [(key 22 h8).1] at b; exact b
  · by_cases hj : 22 = i
    · subst hj; rw [upd_self]; exact k4 rfl
    · rw [(key 22 hj).1] at a
      rw [(key 22 hj).2]
      exact h.2.2.2.2 a
theorem TwiU.one (h : TwiU W ti tw f g y) (_ : f 18 = false) (_ : f 22 = false) : TwiU W ti tw (upd f 17 true) (upd g 17 (.slice (some ⟨y.heap.size, 0, none⟩) 2 2)) (y.alloc (.cells tw 29)) :=
  h.put 17 _ ((Below.refl y.heap.size y).alloc (Nat.le_refl _) _) (fun _ => ⟨_, rfl, Has.new _ _ _⟩) (fun e => by omega) (fun e => by omega) (fun e => by omega)
theorem TwiU.two (h : TwiU W ti tw f g y) (_ : f 22 = false) : TwiU W ti tw (upd f 21 true) (upd g 21 (.slice (some ⟨y.heap.size, 0, none⟩) 2 2)) (y.alloc (.cells tw 29)) :=
  h.put 21 _ ((Below.refl y.heap.size y).alloc (Nat.le_refl _) _) (fun e => by omega) (fun e => by omega) (fun _ => ⟨_, rfl, Has.new _ _ _⟩) (fun e => by omega)
theorem TwiU.list {y2 : World} {vl : Value} (h : TwiU W ti tw f g y) (_ : f 17 = true) (hb : Below y.heap.size y y2) (hit : ItemAt y2 (.mk true ⟨#[]⟩ [ti, ti]) vl) : TwiU W ti tw (upd f 18 true) (upd g 18 vl) y2 :=
  h.put 18 _ hb (fun e => by omega) (fun _ => by obtain ⟨a, c, e, _⟩ := hit.open; exact ⟨a, c, e, hit⟩) (fun e => by omega) (fun e => by omega)
theorem TwiU.list2 {y2 : World} {B : Nat} (h : TwiU W ti tw f g y) (h21 : f 21 = true) (h22 : f 22 = false) (e : g 21 = .slice (some ⟨B, 0, none⟩) 2 2) (hb : Below y.heap.size y y2) : TwiU W ti tw (upd f 22 true) (upd g 22 (.agg #[.bool true, .string ⟨#[]⟩, .slice (some ⟨B, 0, none⟩) 2 2])) y2 := by
  obtain ⟨B', e', k⟩ := h.2.2.2.1 h21 h22
  obtain rfl := sl_inj (e.symm.trans e')
  exact h.put 22 _ hb (fun e => by omega) (fun e => by omega) (fun e => by omega) (fun _ => ⟨B, rfl, k.later hb⟩)
end
theorem two_item {W : World} {a b : It} {B : Nat} {u0 u1 u2 v0 v1 v2 : Value} (hB : Has W B 29 #[u0, u1, u2, v0, v1, v2]) (ha : ItemAt W a (.agg #[u0, u1, u2])) (hb : ItemAt W b (.agg #[v0, v1, v2])) : ItemAt W (.mk true ⟨#[]⟩ [a, b]) (.agg #[.bool true, .string ⟨#[]⟩, .slice (some ⟨B, 0, none⟩) 2 2]) := by
  have h := kids_two hB ha hb
  unfold ItemAt
  exact ⟨_, _, rfl, by simp, by decide, h⟩
theorem rsame_self {W : World} {it : It} {v v' : Value} (H : ∀ t u : It, SameAt t u) (h : ItemAt W it v) (h' : ItemAt W it v') : Calls Tryz.prog 17 #[v, v'] W fun e W' => e = .returned (.bool true) ∧ Below W.heap.size W W' := by
  have k := H it it v v' W h h'
  rw [(sameI_iff it it).2 rfl] at k
  exact k
theorem refEnc_good' (t : It) (ho : okI t = true) (hl : (encI t).length ≤ 1048576) (v : Value) (w : World) (ht : ItemAt w t v) :
    Calls Tryz.prog 11 #[v] w fun e w' => e = .returned (.tuple #[.string ⟨(encI t).toArray⟩, .int .i64 0]) ∧ Below w.heap.size w w' := by
  have h := refEncode_any t (by omega) v w ht
  have e1 := encE_good ho hl
  rw [encS_good e1, e1] at h
  exact h
/-- What Decode tells: an item, an error, a place. -/
def decT : Rd It → It
  | .ok t _ _ => t
  | .no _ _ => .mk false ⟨#[]⟩ []
def decX : Rd It → Int
  | .ok _ _ _ => 0
  | .no x _ => (x : Int)
def decN : Rd It → Int
  | .ok _ _ _ => 0
  | .no _ p => (p : Int)
theorem dec_told {W W' : World} {r : Rd It} {e : Ending} (h : DecP W r e W') : ∃ ja jc, e = .returned (.tuple #[.agg #[.bool (decT r).list, .string (decT r).bytes, .slice ja (decT r).kids.length jc], .int .i64 (decX r), .int .i64 (decN r)]) ∧
    ItemAt W' (decT r) (.agg #[.bool (decT r).list, .string (decT r).bytes, .slice ja (decT r).kids.length jc]) ∧ Below W.heap.size W W' := by
  cases r with
  | ok t a m =>
    obtain ⟨v, e1, e2, e3⟩ := h
    obtain ⟨ja, jc, rfl, _⟩ := e2.open
    exact ⟨ja, jc, e1, e2.at, e3⟩
  | no x p =>
    refine ⟨none, 0, h.1, ?_, h.2⟩
    unfold decT ItemAt
    exact ⟨none, 0, rfl, by simp, by decide, .inl rfl⟩
end Go.Proofs.YtbbpmcebakckaaaGreatDoor

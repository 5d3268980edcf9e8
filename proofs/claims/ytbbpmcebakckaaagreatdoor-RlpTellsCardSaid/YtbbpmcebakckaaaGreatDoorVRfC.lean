import Derived.Test.YtbbpmcebakckaaaGreatDoorVRfB
import Derived.Test.YtbbpmcebakckaaaGreatDoorU23
import Derived.Test.YtbbpmcebakckaaaGreatDoorVGhost2
/- The document's own reader of items: one item. Conditions: the reader lies in memory; places are in reach. -/
namespace Go.Proofs.YtbbpmcebakckaaaGreatDoor
open Go Go.RowKit Late
attribute [local go_sem] Oper.semAt_some Grows wide_fn

theorem setCell_there {W : World} {B j : Nat} {v : Value} (h : W.cell? ⟨B, j, none⟩ = some v) : W.setCell ⟨B, j, none⟩ v = W := by
  have hh : W.heap.modify B (fun o => match o with | .cells c elem frozen => .cells (if (none : Option Unit).isSome then c else c.setIfInBounds j v) elem frozen | o => o) = W.heap := by
    refine Array.ext_getElem? fun i => ?_
    rw [Array.getElem?_modify]
    by_cases e : B = i
    · subst e
      rw [if_pos rfl]
      cases hb : W.heap[B]? with
      | none => rfl
      | some o =>
        cases o with
        | cells c e f =>
          simp only [World.cell?, hb] at h
          have h2 : c[j]? = some v := h
          have h3 : c.setIfInBounds j v = c := by
            refine Array.ext_getElem? fun m => ?_
            by_cases hm : j = m
            · subst hm
              have hl := (Array.getElem?_eq_some_iff.1 h2).1
              rw [Array.getElem?_setIfInBounds_self_of_lt hl, h2]
            · rw [Array.getElem?_setIfInBounds_ne hm]
          show some (Obj.cells (c.setIfInBounds j v) e f) = _
          rw [h3]
        | _ => rfl
    · rw [if_neg e]
  exact congrArg (fun h => ({ W with heap := h } : World)) hh
/-- A box with a row of the call's own; meanwhile only the reader's block was turned of what was there. -/
def Cm (w y : World) (R P Bx base : Nat) (sv : Value) (acc : List It) : Prop :=
  Has y Bx 29 #[.bool true, .string ⟨#[]⟩, sv] ∧ RowK y base sv acc ∧ w.grownBy y (some R) ∧ Has y P 29 #[.bool false, .string ⟨#[]⟩, .slice none 0 0] ∧ base ≤ y.heap.size
/-- The row, with what was read behind it. -/
def RdL (s : ByteArray) (R base : Nat) (r : Rd It) (acc : List It) (v : Value) (y : World) : Prop :=
  match r with
  | .ok t a' m' => RowK y base v (acc ++ [t]) ∧ Has y R 74 (stC s a' m' 0)
  | .no x p => x ≠ 0 ∧ ∃ m', Has y R 74 (stC s p m' x)
section
variable {s : ByteArray} {w y z : World} {R P Bx base a m : Nat} {sv v : Value} {acc : List It} {r : Rd It}
theorem Cm.later (h : Cm w y R P Bx base sv acc) (hb : Below y.heap.size y z) : Cm w z R P Bx base sv acc :=
  ⟨h.1.later hb, h.2.1.later hb, grown_then_below h.2.2.1 hb, h.2.2.2.1.later hb, Nat.le_trans h.2.2.2.2 hb.size⟩
theorem Cm.sr (h : Cm w y R P Bx base sv acc) (hg : y.grownBy z (some R)) (hP : P ≠ R) (hB : Bx ≠ R) (hR : R < base) : Cm w z R P Bx base sv acc :=
  ⟨h.1.sr hg hB, h.2.1.keep (fun b o hbb hob _ => (hg.block b (Array.getElem?_eq_some_iff.1 hob).1 (fun e => by injection e with e; omega)).trans hob), grown_trans h.2.2.1 hg, h.2.2.2.1.sr hg hP, Nat.le_trans h.2.2.2.2 hg.size⟩
theorem RdQ.later {S : Nat → Prop} (h : RdQ s R S r v y) (hb : Below y.heap.size y z) : RdQ s R S r v z := by
  cases r with
  | ok t a' m' => exact ⟨h.1.later hb, h.2.later hb⟩
  | no x p => exact ⟨h.1, h.2.1, h.2.2.imp fun _ k => k.later hb⟩
theorem RdL.later (h : RdL s R base r acc v y) (hb : Below y.heap.size y z) : RdL s R base r acc v z := by
  cases r with
  | ok t a' m' => exact ⟨h.1.later hb, h.2.later hb⟩
  | no x p => exact ⟨h.1, h.2.imp fun _ k => k.later hb⟩
abbrev SB (base : Nat) (sv : Value) (b : Nat) : Prop := base ≤ b ∧ sv.ownBlock ≠ some b
def P0 (s : ByteArray) (w : World) (R P Bx base : Nat) (sv : Value) (acc : List It) (a m : Nat) (y : World) : Prop := Cm w y R P Bx base sv acc ∧ Has y R 74 (stC s a m 0)
def P1 (s : ByteArray) (w : World) (R P Bx base : Nat) (sv : Value) (acc : List It) (r : Rd It) (v : Value) (y : World) : Prop := Cm w y R P Bx base sv acc ∧ RdQ s R (SB base sv) r v y
def P2 (s : ByteArray) (w : World) (R P Bx base : Nat) (sv : Value) (acc : List It) (r : Rd It) (v : Value) (y : World) : Prop :=
  Cm w y R P Bx base sv acc ∧ ∃ b4 u0 u1 u2, v = .slice (some ⟨b4, 0, none⟩) 1 1 ∧ Has y b4 29 #[u0, u1, u2] ∧ (∀ u ∈ [u0, u1, u2], u.oneCell' = true) ∧ RdQ s R (SB base sv) r (.agg #[u0, u1, u2]) y
def P3 (s : ByteArray) (w : World) (R P Bx base : Nat) (sv : Value) (acc : List It) (r : Rd It) (v : Value) (y : World) : Prop :=
  Has y Bx 29 #[.bool true, .string ⟨#[]⟩, sv] ∧ w.grownBy y (some R) ∧ Has y P 29 #[.bool false, .string ⟨#[]⟩, .slice none 0 0] ∧ base ≤ y.heap.size ∧ (∃ a c n, v = .slice a n c) ∧ RdL s R base r acc v y
def P4 (s : ByteArray) (w : World) (R P Bx base : Nat) (acc : List It) (r : Rd It) (v : Value) (y : World) : Prop :=
  Has y Bx 29 #[.bool true, .string ⟨#[]⟩, v] ∧ w.grownBy y (some R) ∧ Has y P 29 #[.bool false, .string ⟨#[]⟩, .slice none 0 0] ∧ base ≤ y.heap.size ∧ (∃ a c n, v = .slice a n c) ∧ RdL s R base r acc v y
theorem P0.call (h : P0 s w R P Bx base sv acc a m y) (hP : P ≠ R) (hB : Bx ≠ R) (hR : R < base) (hq : RdQ s R (fun b => y.heap.size ≤ b) r v z) (hg : y.grownBy z (some R)) : P1 s w R P Bx base sv acc r v z := by
  refine ⟨h.1.sr hg hP hB hR, ?_⟩
  cases r with
  | ok t a' m' =>
    refine ⟨hq.1.mono (fun b hb _ => ⟨Nat.le_trans h.1.2.2.2.2 hb, fun e => ?_⟩), hq.2⟩
    obtain ⟨_, cs, hcs⟩ := h.1.2.1.block e
    have := (Array.getElem?_eq_some_iff.1 hcs).1
    omega
  | no x p => exact hq
theorem P1.shape (h : P1 s w R P Bx base sv acc r v y) : ∃ u0 u1 u2, v = .agg #[u0, u1, u2] ∧ ∀ u ∈ [u0, u1, u2], u.oneCell' = true := by
  cases r with
  | ok t a' m' =>
    obtain ⟨a, cap, hv, _⟩ := h.2.1.open
    subst hv
    exact ⟨_, _, _, rfl, h.2.1.ones⟩
  | no x p =>
    obtain ⟨b0, s0, a, n, c, e⟩ := h.2.1
    exact ⟨_, _, _, e, by simp [Value.oneCell']⟩
theorem P1.build {u0 u1 u2 : Value} (h : P1 s w R P Bx base sv acc r (.agg #[u0, u1, u2]) y) (h1 : ∀ u ∈ [u0, u1, u2], u.oneCell' = true) :
    P2 s w R P Bx base sv acc r (.slice (some ⟨y.heap.size, 0, none⟩) 1 1) (y.alloc (.cells #[u0, u1, u2] 29)) := by
  have hb := (Below.refl y.heap.size y).alloc (Nat.le_refl _) (.cells #[u0, u1, u2] 29)
  exact ⟨h.1.later hb, y.heap.size, u0, u1, u2, rfl, Has.new _ _ _, h1, h.2.later hb⟩
theorem owns_slice {X : World} {b : Nat} {e : TypeId} {size n : Nat} {v : Value} {xs : List Value} (h : X.ownsRow b e size v n xs) : ∃ a c n, v = .slice a n c := by
  rcases h.2 with ⟨rfl, _⟩ | ⟨g, cap, cur, rfl, _⟩
  · exact ⟨_, _, _, rfl⟩
  · exact ⟨_, _, _, rfl⟩
theorem Cm.own (h : Cm w y R P Bx base sv acc) (hg : y.grownBy z sv.ownBlock) (hwB : w.heap.size ≤ base) : w.grownBy z (some R) :=
  grown_own h.2.2.1 hg hwB (fun r e => (h.2.1.block e).1)
theorem P2.append (h : P2 s w R P Bx base sv acc r v y) (hP : P < base) (hB : Bx < base) (hR : R < base) (hRy : R < y.heap.size) (hwB : w.heap.size ≤ base) :
    ∃ b4 u0 u1 u2 vs, v = .slice (some ⟨b4, 0, none⟩) 1 1 ∧ Has y b4 29 #[u0, u1, u2] ∧ (∀ u ∈ [u0, u1, u2], u.oneCell' = true) ∧ y.ownsRow base 29 3 sv acc.length (flat3 vs) ∧
      ∀ v' w', w'.ownsRow base 29 3 v' (acc.length + 1) (flat3 vs ++ [u0, u1, u2]) → y.grownBy w' sv.ownBlock → NewBlock y sv v' → P3 s w R P Bx base sv acc r v' w' := by
  obtain ⟨hc, b4, u0, u1, u2, e1, e2, e3, e4⟩ := h
  obtain ⟨vs, hvs, hown, hks⟩ := hc.2.1.opened
  refine ⟨b4, u0, u1, u2, vs, e1, e2, e3, hown, fun v' w' j1 j2 j3 => ?_⟩
  have hne : ∀ b, b < base → sv.ownBlock ≠ some b := fun b hb e => by have := (hc.2.1.block e).1; omega
  refine ⟨(j2.block Bx hc.1.lt (fun e => hne Bx hB e.symm)).trans hc.1, hc.own j2 hwB, (j2.block P hc.2.2.2.1.lt (fun e => hne P hP e.symm)).trans hc.2.2.2.1, Nat.le_trans hc.2.2.2.2 j2.size, owns_slice j1, ?_⟩
  cases r with
  | ok t a' m' => exact ⟨RowK.push hvs hks e4.1 j1 j2 j3, (j2.block R hRy (fun e => hne R hR e.symm)).trans e4.2⟩
  | no x p => exact ⟨e4.2.1, e4.2.2.imp fun _ k => (j2.block R hRy (fun e => hne R hR e.symm)).trans k⟩
theorem P3.store (h : P3 s w R P Bx base sv acc r v y) (hPB : P ≠ Bx) (hRB : R ≠ Bx) (hB : Bx < base) (hw : w.heap.size ≤ Bx) : P4 s w R P Bx base acc r v (y.setCell ⟨Bx, 2, none⟩ v) := by
  obtain ⟨h1, h2, h3, h4, h5, h6⟩ := h
  refine ⟨h1.set 2 v, grown_set h2 (.inr hw) v, h3.other (by show P ≠ Bx; omega) v, by simpa [World.setCell] using h4, h5, ?_⟩
  cases r with
  | ok t a' m' => exact ⟨h6.1.keep (fun b o hb ho _ => (Below.heap_setCell y ⟨Bx, 2, none⟩ v b (by show b ≠ Bx; omega)).trans ho), h6.2.other (by show R ≠ Bx; omega) v⟩
  | no x p => exact ⟨h6.1, h6.2.imp fun _ k => k.other (by show R ≠ Bx; omega) v⟩
/-- Four steps in a chain: what is known behind each. -/
def RU (p0 : World → Prop) (p1 p2 p3 p4 : Value → World → Prop) (c1 c2 c3 c4 : Nat) (f : Nat → Bool) (g : Nat → Value) (y : World) : Prop :=
  (f c1 = false → p0 y) ∧ (f c1 = true → f c2 = false → p1 (g c1) y) ∧ (f c2 = true → f c3 = false → p2 (g c2) y) ∧ (f c3 = true → f c4 = false → p3 (g c3) y) ∧ (f c4 = true → p4 (g c3) y)
end
section
variable {p0 : World → Prop} {p1 p2 p3 p4 : Value → World → Prop} {c1 c2 c3 c4 : Nat} {f : Nat → Bool} {g : Nat → Value} {y z : World} {u : Value}
theorem RU.later (h : RU p0 p1 p2 p3 p4 c1 c2 c3 c4 f g y) (k0 : p0 y → p0 z) (k1 : ∀ v, p1 v y → p1 v z) (k2 : ∀ v, p2 v y → p2 v z) (k3 : ∀ v, p3 v y → p3 v z) (k4 : ∀ v, p4 v y → p4 v z) : RU p0 p1 p2 p3 p4 c1 c2 c3 c4 f g z :=
  ⟨fun a => k0 (h.1 a), fun a b => k1 _ (h.2.1 a b), fun a b => k2 _ (h.2.2.1 a b), fun a b => k3 _ (h.2.2.2.1 a b), fun a => k4 _ (h.2.2.2.2 a)⟩
theorem RU.same {f' : Nat → Bool} {g' : Nat → Value} (h : RU p0 p1 p2 p3 p4 c1 c2 c3 c4 f g y) (h1 : f c1 = f' c1 ∧ g c1 = g' c1) (h2 : f c2 = f' c2 ∧ g c2 = g' c2) (h3 : f c3 = f' c3 ∧ g c3 = g' c3) (h4 : f c4 = f' c4 ∧ g c4 = g' c4) : RU p0 p1 p2 p3 p4 c1 c2 c3 c4 f' g' y := by
  unfold RU at h ⊢
  rw [h1.1, h1.2, h2.1, h2.2, h3.1, h3.2, h4.1] at h
  exact h
theorem RU.start (h : p0 y) : RU p0 p1 p2 p3 p4 c1 c2 c3 c4 (fun _ => false) g y :=
  ⟨fun _ => h, fun e => by simp at e, fun e => by simp at e, fun e => by simp at e, fun e => by simp at e⟩
theorem RU.one (n2 : c2 ≠ c1) (n3 : c3 ≠ c1) (n4 : c4 ≠ c1) (h2 : f c2 = false) (h3 : f c3 = false) (h4 : f c4 = false) (h : p1 u z) : RU p0 p1 p2 p3 p4 c1 c2 c3 c4 (upd f c1 true) (upd g c1 u) z := by
  refine ⟨fun e => ?_, fun _ _ => ?_, fun e => ?_, fun e => ?_, fun e => ?_⟩
  · rw [upd_self] at e; cases e
  · rw [upd_self]; exact h
  · rw [upd_ne f true n2, h2] at e; cases e
  · rw [upd_ne f true n3, h3] at e; cases e
  · rw [upd_ne f true n4, h4] at e; cases e
theorem RU.two (n1 : c1 ≠ c2) (n3 : c3 ≠ c2) (n4 : c4 ≠ c2) (h1 : f c1 = true) (h3 : f c3 = false) (h4 : f c4 = false) (h : p2 u z) : RU p0 p1 p2 p3 p4 c1 c2 c3 c4 (upd f c2 true) (upd g c2 u) z := by
  refine ⟨fun e => ?_, fun _ e => ?_, fun _ _ => ?_, fun e => ?_, fun e => ?_⟩
  · rw [upd_ne f true n1, h1] at e; cases e
  · rw [upd_self] at e; cases e
  · rw [upd_self]; exact h
  · rw [upd_ne f true n3, h3] at e; cases e
  · rw [upd_ne f true n4, h4] at e; cases e
theorem RU.three (n1 : c1 ≠ c3) (n2 : c2 ≠ c3) (n4 : c4 ≠ c3) (h1 : f c1 = true) (h2 : f c2 = true) (h4 : f c4 = false) (h : p3 u z) : RU p0 p1 p2 p3 p4 c1 c2 c3 c4 (upd f c3 true) (upd g c3 u) z := by
  refine ⟨fun e => ?_, fun _ e => ?_, fun _ e => ?_, fun _ _ => ?_, fun e => ?_⟩
  · rw [upd_ne f true n1, h1] at e; cases e
  · rw [upd_ne f true n2, h2] at e; cases e
  · rw [upd_self] at e; cases e
  · rw [upd_self]; exact h
  · rw [upd_ne f true n4, h4] at e; cases e
theorem RU.four (n1 : c1 ≠ c4) (n2 : c2 ≠ c4) (n3 : c3 ≠ c4) (h1 : f c1 = true) (h2 : f c2 = true) (h3 : f c3 = true) (h : p4 (g c3) z) : RU p0 p1 p2 p3 p4 c1 c2 c3 c4 (upd f c4 true) (upd g c4 u) z := by
  refine ⟨fun e => ?_, fun _ e => ?_, fun _ e => ?_, fun _ e => ?_, fun _ => ?_⟩
  · rw [upd_ne f true n1, h1] at e; cases e
  · rw [upd_ne f true n2, h2] at e; cases e
  · rw [upd_ne f true n3, h3] at e; cases e
  · rw [upd_self] at e; cases e
  · rw [upd_ne g u n3]; exact h
end
/-- How far a list's reading still is from its end. -/
def stM (R E : Nat) (W : World) : Nat := match W.cell? ⟨R, 3, none⟩, W.cell? ⟨R, 1, none⟩ with
  | some (.int _ x), some (.int _ a) => if x = 0 then E - a.toNat + 1 else 0
  | _, _ => 0
theorem stM_has {s : ByteArray} {R E a m x : Nat} {W : World} (h : Has W R 74 (stC s a m x)) : stM R E W = if x = 0 then E - a + 1 else 0 := by
  unfold stM
  rw [h.cell 3 _ rfl, h.cell 1 _ rfl]
  show (if (x : Int) = 0 then E - ((a : Int)).toNat + 1 else 0) = _
  by_cases h0 : x = 0
  · subst h0
    rw [if_pos (show ((0 : Nat) : Int) = 0 from rfl), if_pos rfl, Int.toNat_natCast]
  · rw [if_neg (by omega), if_neg h0]
/-- What the list's loop holds. -/
def LpSt (s : ByteArray) (w : World) (R P Bx base d E : Nat) (tot : Rd (List It)) (W : World) : Prop :=
  (∃ acc sv a m f, Cm w W R P Bx base sv acc ∧ Has W R 74 (stC s a m 0) ∧ a ≤ E ∧ m ≤ 5000 ∧ E ≤ a + f ∧ acc.length ≤ m ∧ rdLoop (rdI s d E) E f a m acc = tot) ∨
  (∃ sv x p m', Has W Bx 29 #[.bool true, .string ⟨#[]⟩, sv] ∧ w.grownBy W (some R) ∧ Has W P 29 #[.bool false, .string ⟨#[]⟩, .slice none 0 0] ∧ (∃ a c n, sv = .slice a n c) ∧ x ≠ 0 ∧ Has W R 74 (stC s p m' x) ∧ tot = .no x p)
theorem LpSt.next {s : ByteArray} {w y : World} {R P Bx base d E a m f : Nat} {v : Value} {acc : List It} {tot : Rd (List It)} (hE : E ≤ s.size) (ha : a < E) (hm : m ≤ 5000) (hl : acc.length ≤ m) (hf : E ≤ a + f) (ht : rdLoop (rdI s d E) E f a m acc = tot)
    (h : P4 s w R P Bx base acc (rdI s d E a m) v y) : LpSt s w R P Bx base d E tot y ∧ stM R E y < E - a + 1 := by
  obtain ⟨h1, h2, h3, h4, h5, h6⟩ := h
  obtain ⟨f', rfl⟩ : ∃ f', f = f' + 1 := ⟨f - 1, by omega⟩
  rw [rdLoop, if_pos ha] at ht
  rcases hr : rdI s d E a m with ⟨t, a', m'⟩ | ⟨x, p⟩
  · rw [hr] at ht h6
    have hg := rdItem_ok 5000 s.data.toList d E a m t a' m' (by rw [← size_list]; exact hE) hr
    obtain ⟨g1, g2, _, g4, g5, _⟩ := hg
    have := countI_pos t
    refine ⟨.inl ⟨acc ++ [t], v, a', m', f', ⟨h1, h6.1, h2, h3, h4⟩, h6.2, g2, g5, by omega, by simp; omega, ht⟩, ?_⟩
    rw [stM_has h6.2, if_pos rfl]
    omega
  · rw [hr] at ht h6
    obtain ⟨e1, m', e2⟩ := h6
    refine ⟨.inr ⟨v, x, p, m', h1, h2, h3, h5, e1, e2, ht.symm⟩, ?_⟩
    rw [stM_has e2, if_neg e1]
    omega
set_option maxRecDepth 1000000 in
set_option maxHeartbeats 16000000 in
theorem rf_list (s : ByteArray) (R d e a m c n fr : Nat) (w : World) (IH : RfOK s R (d - 1)) (hR : Has w R 74 (stC s a m 0)) (hs : s.size ≤ 1099511627776) (he : e ≤ s.size) (ha : a < e) (hm : m < 5000) (hd : 1 ≤ d) (hd2 : d ≤ 16) (hbc : byteAt s.data.toList a = c) (hc : 192 ≤ c) (hc2 : c < 256) (hh : rdHead s.data.toList (c - 192) e a = .ok n fr 0) :
    Calls Tryz.prog 41 #[.pointer (some ⟨R, 0, none⟩), .int .i64 (e : Int), .int .i64 ((16 - d : Nat) : Int)] w (RdP s R w (match rdLoop (rdI s (d - 1) (fr + n)) (fr + n) (fr + n - fr) fr (m + 1) [] with | .no x p => .no x p | .ok ks a' m' => .ok (.mk true ⟨#[]⟩ ks) a' m')) := by
  obtain ⟨tot, htot⟩ : ∃ tot, rdLoop (rdI s (d - 1) (fr + n)) (fr + n) (fr + n - fr) fr (m + 1) [] = tot := ⟨_, rfl⟩
  rw [htot]
  have HTOT := Lib.hid htot
  clear htot
  obtain ⟨rs, hrs⟩ : ∃ rs, (match tot with | .no x p => Rd.no x p | .ok ks a' m' => Rd.ok (It.mk true ⟨#[]⟩ ks) a' m') = rs := ⟨_, rfl⟩
  rw [hrs]
  have HRS := Lib.hid hrs
  clear hrs
  have HIH := Lib.hid (And.intro IH (And.intro hd hd2))
  have HMM := Lib.hid hm
  clear IH
  have hmx : Tryz.prog.follows .mixedOrders = true := by kernel_rfl
  have LS := Has.new w 29 #[.bool false, .string ⟨#[]⟩, .slice none 0 0]
  have LR := hR.alloc (.cells #[.bool false, .string ⟨#[]⟩, .slice none 0 0] 29)
  have Q := (Below.refl w.heap.size w).alloc (Nat.le_refl _) (.cells #[.bool false, .string ⟨#[]⟩, .slice none 0 0] 29)
  have hRlt := hR.lt
  obtain ⟨W1, hW1⟩ : ∃ W1, w.alloc (.cells #[.bool false, .string ⟨#[]⟩, .slice none 0 0] 29) = W1 := ⟨_, rfl⟩
  rw [hW1] at LS LR Q
  have haI0 : (0 : Int) ≤ (a : Int) := by omega
  have haI1 : (a : Int) ≤ 1099511627776 := by omega
  have hmI0 : (0 : Int) ≤ (m : Int) := by omega
  have hmI1 : (m : Int) ≤ 5000 := by omega
  have c1 : W1.cell? ⟨R, 1, none⟩ = some (.int .i64 (a : Int)) := LR.cell 1 _ rfl
  have c2 : W1.cell? ⟨R, 2, none⟩ = some (.int .i64 (m : Int)) := LR.cell 2 _ rfl
  have c3 : W1.cell? ⟨R, 3, none⟩ = some (.int .i64 0) := LR.cell 3 _ rfl
  have hal : a < s.size := by omega
  have hbv : (((s[a]'hal).toNat : Nat) : Int) = (c : Int) := by rw [byte_idx' hal, hbc]
  have hcb := byteAt_lt s.data.toList a
  have hcI0 : (0 : Int) ≤ (c : Int) := by omega
  have hcI1 : (c : Int) ≤ 255 := by omega
  have haI3 : (a : Int) < (s.size : Int) := by omega
  have hta : ((a : Int)).toNat = a := by omega
  have hae : ¬ (e : Int) ≤ (a : Int) := by omega
  have haN : decide (e ≤ a) = false := by rw [decide_eq_false_iff_not]; omega
  have hmm : ¬ (5000 : Int) ≤ (m : Int) := by omega
  generalize hdI : ((16 - d : Nat) : Int) = dI
  have hdd : ¬ (16 : Int) ≤ dI := by omega
  have hdI0 : (0 : Int) ≤ dI := by omega
  have HDI := Lib.hid hdI
  have c0 : W1.cell? ⟨R, 0, none⟩ = some (.string s) := LR.cell 0 _ rfl
  have y2 := LR.frozen 2
  have LR2 := LR.set 2 (.int .i64 ((m : Int) + 1))
  have LS2 := LS.other (p := ⟨R, 2, none⟩) (by show w.heap.size ≠ R; omega) (.int .i64 ((m : Int) + 1))
  have G2 := grown_set' (grown_of_below Q (some R)) 2 (.int .i64 ((m : Int) + 1))
  obtain ⟨W2, hW2⟩ : ∃ W2, W1.setCell ⟨R, 2, none⟩ (.int .i64 ((m : Int) + 1)) = W2 := ⟨_, rfl⟩
  rw [hW2] at LR2 LS2 G2
  have LR2' : Has W2 R 74 (stC s a (m + 1) 0) := LR2
  have b0 : W2.cell? ⟨R, 0, none⟩ = some (.string s) := LR2'.cell 0 _ rfl
  have b1 : W2.cell? ⟨R, 1, none⟩ = some (.int .i64 (a : Int)) := LR2'.cell 1 _ rfl
  have y1 := LR2'.frozen 1
  have hcI : ¬ (c : Int) < 128 := by omega
  have hcI2 : (192 : Int) ≤ (c : Int) := by omega
  have HZ := Lib.hid (show Calls Tryz.prog 61 #[.pointer (some ⟨R, 0, none⟩), .int .i64 192, .int .i64 (e : Int)] W2 (SzP s R W2 (c - 192) e a (m + 1)) from by
    by_cases h : c - 192 ≤ 55
    · exact size_small s R a (m + 1) e 192 (c - 192) W2 LR2' hs he ha (by omega) (by rw [hbc]; omega) h
    · exact size_great s R a (m + 1) e 192 (c - 192) W2 LR2' hs he ha (by omega) (by rw [hbc]; omega) h (by omega))
  have HH := Lib.hid hh
  have heI : (e : Int) ≤ 1099511627776 := by omega
  have HRG := Lib.hid (And.intro hs he)
  replace LR := Lib.hid LR
  replace LS := Lib.hid LS
  replace Q := Lib.hid Q
  replace LS2 := Lib.hid LS2
  replace G2 := Lib.hid G2
  replace LR2 := Lib.hid LR2
  clear LR2' hR hs ha hm hd hd2 hbc hc hc2 hcb hh
  go_enter Tryz.func41, Tryz.ntmps41
  go_wp2_with fail
  refine HZ.out.mono ?_
  rintro _ y0 ⟨z, a1, x, rfl, hy, hg, hz, hcase⟩
  have HCASE := Lib.hid hcase
  have hz0 : (0 : Int) ≤ (z : Int) := by omega
  have hzI : (z : Int) ≤ 281474976710656 := by omega
  have LS0 := Lib.hid (LS2.out.sr hg (by omega))
  have G0 := Lib.hid (grown_trans G2.out hg)
  have HR0 := Lib.hid hy
  have k0 : y0.cell? ⟨R, 0, none⟩ = some (.string s) := hy.cell 0 _ rfl
  have k1 : y0.cell? ⟨R, 1, none⟩ = some (.int .i64 (a1 : Int)) := hy.cell 1 _ rfl
  have k3 : y0.cell? ⟨R, 3, none⟩ = some (.int .i64 (x : Int)) := hy.cell 3 _ rfl
  clear hz hy hg hcase c0 c1 c2 c3 b0 b1 y1 y2 hW1 hW2 HZ
  have hcase2 : x = 0 ∧ z = n ∧ a1 = fr ∧ a < fr ∧ fr + n ≤ e := by
    have h := HCASE.out
    rw [HH.out] at h
    rcases h with ⟨h1, h2, h3, ⟨h4, h5⟩ | ⟨h4, _⟩⟩ | ⟨h1, h2⟩
    · injection h4 with h4 h6 _
      exact ⟨h1, h4.symm, h6.symm, by omega, by omega⟩
    · cases h4
    · cases h2
  clear HCASE
  obtain ⟨rfl, rfl, rfl, h2, h5⟩ := hcase2
  have HFS := Lib.hid (show a1 + z ≤ s.size ∧ s.size ≤ 1099511627776 from by have := HRG.out; omega)
  have haa : (a1 : Int) ≤ 1099511627776 := by omega
  have haa0 : (0 : Int) ≤ (a1 : Int) := by omega
  have hz2 : (z : Int) ≤ 1099511627776 := by omega
  have hlt : ¬ (e : Int) - (a1 : Int) < (z : Int) := by omega
  have k3' : y0.cell? ⟨R, 3, none⟩ = some (.int .i64 0) := k3
  clear k3 h2 h5
  -- the box
  have BX := Has.new y0 29 #[.bool true, .string ⟨#[]⟩, .slice none 0 0]
  have hbx := (Below.refl y0.heap.size y0).alloc (Nat.le_refl _) (.cells #[.bool true, .string ⟨#[]⟩, .slice none 0 0] 29)
  have hsz : (y0.alloc (.cells #[.bool true, .string ⟨#[]⟩, .slice none 0 0] 29)).heap.size = y0.heap.size + 1 := by simp
  obtain ⟨Bx, hBx⟩ : ∃ B, y0.heap.size = B := ⟨_, rfl⟩
  obtain ⟨W5, hW5⟩ : ∃ W5, y0.alloc (.cells #[.bool true, .string ⟨#[]⟩, .slice none 0 0] 29) = W5 := ⟨_, rfl⟩
  rw [hW5] at BX hbx hsz
  rw [hBx] at BX hsz
  have HB := Lib.hid (show R < w.heap.size ∧ w.heap.size < Bx from ⟨hRlt, by have h1 := LS0.out.lt; omega⟩)
  have q0 := BX.cell 0 _ rfl
  have q1 : W5.cell? ⟨Bx, 1, none⟩ = some (.string ⟨#[]⟩) := BX.cell 1 _ rfl
  have q2 : W5.cell? ⟨Bx, 2, none⟩ = some (.slice none 0 0) := BX.cell 2 _ rfl
  have s1 := setCell_there q1
  have s2 := setCell_there q2
  have j0 := BX.frozen 0
  have j1 := BX.frozen 1
  have j2 := BX.frozen 2
  have ST := Lib.hid (show LpSt s w R w.heap.size Bx (Bx + 1) (d - 1) (a1 + z) tot W5 from .inl ⟨[], .slice none 0 0, a1, m + 1, a1 + z - a1, ⟨BX, RowK.nil _ _, grown_then_below G0.out hbx, LS0.out.later hbx, by omega⟩, HR0.out.later hbx, by omega, by have := HMM.out; omega, by omega, by simp, HTOT.out⟩)
  replace BX := Lib.hid BX
  replace hbx := Lib.hid hbx
  replace hsz := Lib.hid hsz
  clear LS0 G0 HR0
  go_wp2_with fail
  clear q0 q1 q2 s1 s2 j0 j1 j2 k0 k1 k3' hW5 hBx hlt
  go_loopw [] (fun wr => LpSt s w R w.heap.size Bx (Bx + 1) (d - 1) (a1 + z) tot wr) (fun wr => stM R (a1 + z) wr)
  case atStart => exact ST.out
  case round =>
    rcases hrel with ⟨acc, sv, b, n1, f, hcm, hst, hbE, hn1, hf, hal, hloop⟩ | ⟨sv, x, p, m', hbx, hg, hP, hsv, hx0, hst, htn⟩
    · have k3 : wr.cell? ⟨R, 3, none⟩ = some (.int .i64 0) := hst.cell 3 _ rfl
      have k1 : wr.cell? ⟨R, 1, none⟩ = some (.int .i64 (b : Int)) := hst.cell 1 _ rfl
      have hb0 : (0 : Int) ≤ (b : Int) := by omega
      have hbI : (b : Int) ≤ 1099511627776 := by have := HFS.out; omega
      have hM := Lib.hid (stM_has (E := a1 + z) hst)
      have HCM := Lib.hid hcm
      have HST := Lib.hid hst
      have HLP := Lib.hid (show b ≤ a1 + z ∧ n1 ≤ 5000 ∧ a1 + z ≤ b + f ∧ acc.length ≤ n1 ∧ rdLoop (rdI s (d - 1) (a1 + z)) (a1 + z) f b n1 acc = tot from ⟨hbE, hn1, hf, hal, hloop⟩)
      clear hcm hst hn1 hf hal hloop
      by_cases hbz : b < a1 + z
      · have hbzI : (b : Int) < (a1 : Int) + (z : Int) := by omega
        have HBZ := Lib.hid hbz
        clear hbz hbE
        obtain ⟨rr, hrr⟩ : ∃ rr, rdI s (d - 1) (a1 + z) b n1 = rr := ⟨_, rfl⟩
        have HRR := Lib.hid hrr
        clear hrr
        obtain ⟨sa, sc, rfl⟩ := HCM.out.2.1.shape
        obtain ⟨sv, hsv⟩ : ∃ sv, Value.slice sa acc.length sc = sv := ⟨_, rfl⟩
        rw [hsv] at HCM
        have HSV := Lib.hid hsv
        clear hsv
        have HC := Lib.hid (fun (y : World) (hy : Has y R 74 (stC s b n1 0)) => (show Calls Tryz.prog 41 #[.pointer (some ⟨R, 0, none⟩), .int .i64 ((a1 : Int) + (z : Int)), .int .i64 (dI + 1)] y (RdP s R y rr) from by
          have h := HIH.out.1 (a1 + z) b n1 y hy HFS.out.1 (by have := HBZ.out; have := HFS.out; omega) HLP.out.2.1
          rw [HRR.out, show (16 - (d - 1) : Nat) = 16 - d + 1 by have := HIH.out.2; omega, show (((16 - d + 1 : Nat)) : Int) = dI + 1 by rw [← HDI.out]; omega, show ((a1 + z : Nat) : Int) = (a1 : Int) + (z : Int) by omega] at h
          exact h))
        have hdI16 : dI ≤ 16 := by omega
        go_wp2_with fail
        refine Late.wp_region_ghost [some (.pointer (some ⟨Bx, 2, none⟩)), some (sv), some (.pointer (some ⟨R, 0, none⟩)), some (.int .i64 (a1 : Int)), some (.int .i64 (z : Int)), some (.int .i64 ((a1 : Int) + (z : Int))), some (.int .i64 dI), some (.int .i64 (dI + 1)), none, none, none, some (.pointer (some ⟨Bx, 2, none⟩)), none] [[], [0], [], [], [], [3, 4], [], [6], [2, 3, 4, 5, 6, 7], [2, 3, 4, 5, 6, 7, 8], [0, 1, 2, 3, 4, 5, 6, 7, 8, 9], [0, 1, 2, 3, 4, 5, 6, 7, 8, 9, 10], [0, 1, 2, 3, 4, 5, 6, 7, 8, 9, 10, 11]] (RU (P0 s w R w.heap.size Bx (Bx + 1) sv acc b n1) (P1 s w R w.heap.size Bx (Bx + 1) sv acc rr) (P2 s w R w.heap.size Bx (Bx + 1) sv acc rr) (P3 s w R w.heap.size Bx (Bx + 1) sv acc rr) (P4 s w R w.heap.size Bx (Bx + 1) acc rr) 8 9 10 12) (by kernel_rfl) (by kernel_rfl) (by kernel_rfl) (fun f g wa wb h hb => h.later (fun k => ⟨k.1.later hb, k.2.later hb⟩) (fun v k => ⟨k.1.later hb, k.2.later hb⟩) (fun v k => ?_) (fun v k => ?_) (fun v k => ?_)) (fun f f' g g' wa h hh => hh.same (h 8 rfl) (h 9 rfl) (h 10 rfl) (h 12 rfl)) (RU.start ⟨HCM.out.later (Below.refl _ _).drew, HST.out.later (Below.refl _ _).drew⟩) ?_
        · obtain ⟨k0, b4, u0, u1, u2, e1, e2, e3, e4⟩ := k
          exact ⟨k0.later hb, b4, u0, u1, u2, e1, e2.later hb, e3, e4.later hb⟩
        · obtain ⟨h1, h2, h3, h4, h5, h6⟩ := k
          exact ⟨h1.later hb, grown_then_below h2 hb, h3.later hb, Nat.le_trans h4 hb.size, h5, h6.later hb⟩
        · obtain ⟨h1, h2, h3, h4, h5, h6⟩ := k
          exact ⟨h1.later hb, grown_then_below h2 hb, h3.later hb, Nat.le_trans h4 hb.size, h5, h6.later hb⟩
        rintro f g y hU0 Dn
        have hU := Lib.hid hU0
        clear hU0 k1 k3
        refine GW.known _ rfl (fun hd hf => ?_) ?_
        · go_wp2
          exact ⟨rfl, rfl, Below.refl _ _⟩
        simp only [Act.put, List.setIfInBounds_toArray, List.set_cons_succ, List.set_cons_zero]
        refine GW.known _ rfl (fun hd hf => ?_) ?_
        · have f3 : f 10 = false := (by cases h : f 10 with | false => rfl | true => exact absurd (Dn 10 h 1 (by decide)) (by rw [hf]; simp))
          have hBv : Has y Bx 29 #[.bool true, .string ⟨#[]⟩, sv] := by
            cases h8 : f 8 with
            | false => exact (hU.out.1 h8).1.1
            | true =>
              cases h9 : f 9 with
              | false => exact (hU.out.2.1 h8 h9).1.1
              | true => exact (hU.out.2.2.1 h9 f3).1.1
          have o2 := hBv.cell 2 _ rfl
          clear hBv f3
          go_wp2
          exact ⟨rfl, rfl, Below.refl _ _⟩
        simp only [Act.put, List.setIfInBounds_toArray, List.set_cons_succ, List.set_cons_zero]
        refine GW.known _ rfl (fun hd hf => ?_) ?_
        · go_wp2
          exact ⟨rfl, rfl, Below.refl _ _⟩
        simp only [Act.put, List.setIfInBounds_toArray, List.set_cons_succ, List.set_cons_zero]
        refine GW.known _ rfl (fun hd hf => ?_) ?_
        · go_wp2
          exact ⟨rfl, rfl, Below.refl _ _⟩
        simp only [Act.put, List.setIfInBounds_toArray, List.set_cons_succ, List.set_cons_zero]
        refine GW.known _ rfl (fun hd hf => ?_) ?_
        · go_wp2
          exact ⟨rfl, rfl, Below.refl _ _⟩
        simp only [Act.put, List.setIfInBounds_toArray, List.set_cons_succ, List.set_cons_zero]
        refine GW.known _ rfl (fun hd hf => ?_) ?_
        · go_wp2
          exact ⟨rfl, rfl, Below.refl _ _⟩
        simp only [Act.put, List.setIfInBounds_toArray, List.set_cons_succ, List.set_cons_zero]
        refine GW.known _ rfl (fun hd hf => ?_) ?_
        · go_wp2
          exact ⟨rfl, rfl, Below.refl _ _⟩
        simp only [Act.put, List.setIfInBounds_toArray, List.set_cons_succ, List.set_cons_zero]
        refine GW.known _ rfl (fun hd hf => ?_) ?_
        · go_wp2
          exact ⟨rfl, rfl, Below.refl _ _⟩
        simp only [Act.put, List.setIfInBounds_toArray, List.set_cons_succ, List.set_cons_zero]
        refine GW.open rfl (fun hd hf => ?_) ?_
        · have f2 : f 9 = false := (by cases h : f 9 with | false => rfl | true => exact absurd (Dn 9 h 8 (by decide)) (by rw [hf]; simp))
          have f3 : f 10 = false := (by cases h : f 10 with | false => rfl | true => exact absurd (Dn 10 h 8 (by decide)) (by rw [hf]; simp))
          have f4 : f 12 = false := (by cases h : f 12 with | false => rfl | true => exact absurd (Dn 12 h 8 (by decide)) (by rw [hf]; simp))
          have h0 := Lib.hid (hU.out.1 hf)
          go_wp2_with fail
          refine (HC.out y h0.out.2).mono ?_
          rintro _ y2 ⟨v, rfl, hq, hg⟩
          have K := Lib.hid (RU.one (c1 := 8) (c2 := 9) (c3 := 10) (c4 := 12) (p0 := P0 s w R w.heap.size Bx (Bx + 1) sv acc b n1) (p2 := P2 s w R w.heap.size Bx (Bx + 1) sv acc rr) (p3 := P3 s w R w.heap.size Bx (Bx + 1) sv acc rr) (p4 := P4 s w R w.heap.size Bx (Bx + 1) acc rr) (g := g) (by decide) (by decide) (by decide) f2 f3 f4 (h0.out.call (by have := HB.out; omega) (by have := HB.out; omega) (by have := HB.out; omega) hq hg))
          clear hq hg f2 f3 f4
          go_wp2
          exact ⟨rfl, K.out⟩
        simp only [Act.put, List.setIfInBounds_toArray, List.set_cons_succ, List.set_cons_zero]
        refine GW.open rfl (fun hd hf => ?_) ?_
        · have f3 : f 10 = false := (by cases h : f 10 with | false => rfl | true => exact absurd (Dn 10 h 9 (by decide)) (by rw [hf]; simp))
          have f4 : f 12 = false := (by cases h : f 12 with | false => rfl | true => exact absurd (Dn 12 h 9 (by decide)) (by rw [hf]; simp))
          have h1 := hU.out.2.1 (hd 8 (by decide)) hf
          obtain ⟨u0, u1, u2, e, ho⟩ := h1.shape
          rw [e] at h1
          have K := Lib.hid (RU.two (c1 := 8) (c2 := 9) (c3 := 10) (c4 := 12) (p0 := P0 s w R w.heap.size Bx (Bx + 1) sv acc b n1) (p1 := P1 s w R w.heap.size Bx (Bx + 1) sv acc rr) (p3 := P3 s w R w.heap.size Bx (Bx + 1) sv acc rr) (p4 := P4 s w R w.heap.size Bx (Bx + 1) acc rr) (g := g) (by decide) (by decide) (by decide) (hd 8 (by decide)) f3 f4 (h1.build ho))
          have o0 := ho u0 (by simp)
          have o1 := ho u1 (by simp)
          have o2 := ho u2 (by simp)
          rw [show g (0 + 1 + 1 + 1 + 1 + 1 + 1 + 1 + 1) = .agg #[u0, u1, u2] from e]
          clear h1 e ho f3 f4
          go_wp2
          exact ⟨rfl, K.out⟩
        simp only [Act.put, List.setIfInBounds_toArray, List.set_cons_succ, List.set_cons_zero]
        refine GW.open rfl (fun hd hf => ?_) ?_
        · have f4 : f 12 = false := (by cases h : f 12 with | false => rfl | true => exact absurd (Dn 12 h 10 (by decide)) (by rw [hf]; simp))
          have h2 := hU.out.2.2.1 (hd 9 (by decide)) hf
          have hRy : R < y.heap.size := by have := h2.1.2.2.2.2; have := HB.out; omega
          obtain ⟨b4, u0, u1, u2, vs, e1, e2, e3, e4, e5⟩ := h2.append (by have := HB.out; omega) (by omega) (by have := HB.out; omega) hRy (by have := HB.out; omega)
          obtain ⟨i, hi, hz, hsize, hby⟩ := infoI_of
          refine wpList_append_src y rfl (.tmp 169) (.tmp 177) 27 27 rfl (Bx + 1) 29 i _ 3 48 Tryz.underlying27 hi hz hsize hby rfl (by decide) sv acc.length (flat3 vs) rfl e4 (.slice (some ⟨b4, 0, none⟩) 1 1) 1 (by decide) [u0, u1, u2] (by simpa [Act.eval] using e1) (by
            rw [hsize]
            refine Src.ofSlice y Tryz.underlying27 ⟨b4, 0, none⟩ 1 1 _ rfl (fun j u hj => ?_) e3
            have ha : (⟨b4, 0, none⟩ : Addr).add j = ⟨b4, j, none⟩ := by unfold Addr.add; split <;> simp_all
            rw [ha]
            exact e2.cell j u (by simpa using hj)) (by have := HLP.out; omega) (by have := HLP.out; simp only [maxLen]; omega) h2.1.2.2.2.2 ?_
          intro v' w' j1 j2 j3
          exact ⟨rfl, RU.three (by decide) (by decide) (by decide) (hd 8 (by decide)) (hd 9 (by decide)) f4 (e5 v' w' j1 j2 j3)⟩
        simp only [Act.put, List.setIfInBounds_toArray, List.set_cons_succ, List.set_cons_zero]
        refine GW.known _ rfl (fun hd hf => ?_) ?_
        · go_wp2
          exact ⟨rfl, rfl, Below.refl _ _⟩
        simp only [Act.put, List.setIfInBounds_toArray, List.set_cons_succ, List.set_cons_zero]
        refine GW.open rfl (fun hd hf => ?_) ?_
        · have h3 := hU.out.2.2.2.1 (hd 10 (by decide)) hf
          obtain ⟨ga, gc, gn, eg⟩ := h3.2.2.2.2.1
          have K := Lib.hid (fun u => RU.four (c1 := 8) (c2 := 9) (c3 := 10) (c4 := 12) (u := u) (p0 := P0 s w R w.heap.size Bx (Bx + 1) sv acc b n1) (p1 := P1 s w R w.heap.size Bx (Bx + 1) sv acc rr) (p2 := P2 s w R w.heap.size Bx (Bx + 1) sv acc rr) (p3 := P3 s w R w.heap.size Bx (Bx + 1) sv acc rr) (p4 := P4 s w R w.heap.size Bx (Bx + 1) acc rr) (f := f) (g := g) (by decide) (by decide) (by decide) (hd 8 (by decide)) (hd 9 (by decide)) (hd 10 (by decide)) (h3.store (by have := HB.out; omega) (by have := HB.out; omega) (by omega) (by have := HB.out; omega)))
          rw [eg] at K
          have o2 := h3.1.cell 2 _ rfl
          have o3 := h3.1.frozen 2
          rw [show g (0 + 1 + 1 + 1 + 1 + 1 + 1 + 1 + 1 + 1 + 1) = .slice ga gn gc from eg]
          clear h3 eg
          go_wp2
          exact ⟨rfl, K.out _⟩
        simp only [Act.put, List.setIfInBounds_toArray, List.set_cons_succ, List.set_cons_zero]
        refine GW.nil (fun hall => ?_)
        have h4 := hU.out.2.2.2.2 (hall 12 (by omega))
        have HN := Lib.hid (LpSt.next HFS.out.1 HBZ.out HLP.out.2.1 HLP.out.2.2.2.1 HLP.out.2.2.1 HLP.out.2.2.2.2 (by rw [HRR.out]; exact h4))
        clear h4 hU Dn hall HC
        go_wp2_with fail
        go_roundw
        case rel => exact HN.out.1
        case measure =>
          have hlt9 := HN.out.2
          rw [hM.out]
          first | (rw [if_pos rfl]; exact hlt9) | (rw [if_pos trivial]; exact hlt9)
      · have hbzI : ¬ (b : Int) < (a1 : Int) + (z : Int) := by omega
        have hend := Lib.hid (show tot = .ok acc b n1 from by
          have h := HLP.out.2.2.2.2
          rw [← h]
          cases f with
          | zero => rfl
          | succ f => rw [rdLoop, if_neg hbz])
        clear hbz hbE
        obtain ⟨sa, sc, rfl⟩ := HCM.out.2.1.shape
        have p0 := HCM.out.1.cell 0 _ rfl
        have p1 := HCM.out.1.cell 1 _ rfl
        have p2 := HCM.out.1.cell 2 _ rfl
        have x0 := HCM.out.2.2.2.1.cell 0 _ rfl
        have x1 := HCM.out.2.2.2.1.cell 1 _ rfl
        have x2 := HCM.out.2.2.2.1.cell 2 _ rfl
        have f0 := HCM.out.2.2.2.1.frozen 0
        have f1 := HCM.out.2.2.2.1.frozen 1
        have f2 := HCM.out.2.2.2.1.frozen 2
        have S := Lib.hid (((HCM.out.2.2.2.1.set 0 (.bool true)).set 1 (.string ⟨#[]⟩)).set 2 (.slice sa acc.length sc))
        have HRz := Lib.hid (((HST.out.other (p := ⟨w.heap.size, 0, none⟩) (by show R ≠ w.heap.size; have := HB.out; omega) (.bool true)).other (p := ⟨w.heap.size, 1, none⟩) (by show R ≠ w.heap.size; have := HB.out; omega) (.string ⟨#[]⟩)).other (p := ⟨w.heap.size, 2, none⟩) (by show R ≠ w.heap.size; have := HB.out; omega) (.slice sa acc.length sc))
        have GZ := Lib.hid (grown_set (grown_set (grown_set HCM.out.2.2.1 (p := ⟨w.heap.size, 0, none⟩) (.inr (Nat.le_refl _)) (.bool true)) (p := ⟨w.heap.size, 1, none⟩) (.inr (Nat.le_refl _)) (.string ⟨#[]⟩)) (p := ⟨w.heap.size, 2, none⟩) (.inr (Nat.le_refl _)) (.slice sa acc.length sc))
        have hit := HCM.out.2.1.item (by have := HLP.out; omega)
        have HIT := Lib.hid (hit.keep (X := ((wr.setCell ⟨w.heap.size, 0, none⟩ (.bool true)).setCell ⟨w.heap.size, 1, none⟩ (.string ⟨#[]⟩)).setCell ⟨w.heap.size, 2, none⟩ (.slice sa acc.length sc)) (T := fun b => w.heap.size ≤ b) (fun b hb _ => by
          have := HB.out
          rw [Below.heap_setCell _ ⟨w.heap.size, 2, none⟩ _ b (by show b ≠ w.heap.size; omega), Below.heap_setCell _ ⟨w.heap.size, 1, none⟩ _ b (by show b ≠ w.heap.size; omega), Below.heap_setCell _ ⟨w.heap.size, 0, none⟩ _ b (by show b ≠ w.heap.size; omega)]) (fun b hb _ => by have := HB.out; omega))
        clear hit
        go_wp2_with fail
        have z0 := S.out.cell 0 _ rfl
        have z1 := S.out.cell 1 _ rfl
        have z2 := S.out.cell 2 _ rfl
        refine bodyPost_ret (v := .agg #[.bool true, .string ⟨#[]⟩, .slice sa acc.length sc]) (by simp [results, Tryz.results41, go_sem, z0, z1, z2]) rfl ⟨_, rfl, ?_, GZ.out⟩
        rw [← HRS.out, hend.out]
        exact ⟨HIT.out, HRz.out⟩
    · have hxI : ((x : Int) == 0) = false := by rw [beq_eq_false_iff_ne]; omega
      have k3 : wr.cell? ⟨R, 3, none⟩ = some (.int .i64 (x : Int)) := hst.cell 3 _ rfl
      obtain ⟨sa, sc, sn, rfl⟩ := hsv
      have HX0 := Lib.hid hx0
      have HST := Lib.hid hst
      have HTN := Lib.hid htn
      clear hx0 hst htn
      have HBX := Lib.hid hbx
      have HPZ := Lib.hid hP
      have HG := Lib.hid hg
      clear hbx hP hg
      have p0 := HBX.out.cell 0 _ rfl
      have p1 := HBX.out.cell 1 _ rfl
      have p2 := HBX.out.cell 2 _ rfl
      have x0 := HPZ.out.cell 0 _ rfl
      have x1 := HPZ.out.cell 1 _ rfl
      have x2 := HPZ.out.cell 2 _ rfl
      have f0 := HPZ.out.frozen 0
      have f1 := HPZ.out.frozen 1
      have f2 := HPZ.out.frozen 2
      have S := Lib.hid (((HPZ.out.set 0 (.bool true)).set 1 (.string ⟨#[]⟩)).set 2 (.slice sa sn sc))
      have HRz := Lib.hid (((HST.out.other (p := ⟨w.heap.size, 0, none⟩) (by show R ≠ w.heap.size; have := HB.out; omega) (.bool true)).other (p := ⟨w.heap.size, 1, none⟩) (by show R ≠ w.heap.size; have := HB.out; omega) (.string ⟨#[]⟩)).other (p := ⟨w.heap.size, 2, none⟩) (by show R ≠ w.heap.size; have := HB.out; omega) (.slice sa sn sc))
      have GZ := Lib.hid (grown_set (grown_set (grown_set HG.out (p := ⟨w.heap.size, 0, none⟩) (.inr (Nat.le_refl _)) (.bool true)) (p := ⟨w.heap.size, 1, none⟩) (.inr (Nat.le_refl _)) (.string ⟨#[]⟩)) (p := ⟨w.heap.size, 2, none⟩) (.inr (Nat.le_refl _)) (.slice sa sn sc))
      go_wp2_with fail
      have z0 := S.out.cell 0 _ rfl
      have z1 := S.out.cell 1 _ rfl
      have z2 := S.out.cell 2 _ rfl
      refine bodyPost_ret (v := .agg #[.bool true, .string ⟨#[]⟩, .slice sa sn sc]) (by simp [results, Tryz.results41, go_sem, z0, z1, z2]) rfl ⟨_, rfl, ?_, GZ.out⟩
      rw [← HRS.out, HTN.out]
      exact ⟨⟨_, _, _, _, _, rfl⟩, HX0.out, _, HRz.out⟩
theorem head_zero {s : List UInt8} {told e a n fr x : Nat} (h : rdHead s told e a = .ok n fr x) : x = 0 := by
  unfold rdHead at h
  rcases ite_split h with ⟨_, h⟩ | ⟨_, h⟩
  · rcases ite_split h with ⟨_, h⟩ | ⟨_, h⟩
    · injection h with _ _ h; exact h.symm
    · cases h
  · rcases ite_split h with ⟨_, h⟩ | ⟨_, h⟩
    · cases h
    · dsimp only at h
      rcases ite_split h with ⟨_, h⟩ | ⟨_, h⟩
      · cases h
      · rcases ite_split h with ⟨_, h⟩ | ⟨_, h⟩
        · injection h with _ _ h; exact h.symm
        · cases h
theorem rf_any (s : ByteArray) (R : Nat) (hs : s.size ≤ 1099511627776) : ∀ d, d ≤ 16 → RfOK s R d := by
  intro d
  induction d with
  | zero =>
    intro _ e a m W hR he ha hm
    by_cases h1 : 5000 ≤ m <;> by_cases h2 : e ≤ a
    · exact rf_deep3 s R 0 e a m W hR ha hm (by omega) rfl h1 h2
    · exact rf_deep2 s R 0 e a m W hR ha hm (by omega) rfl h1 (by omega)
    · exact rf_deep1 s R 0 e a m W hR ha hm (by omega) rfl (by omega) h2
    · exact rf_deep0 s R 0 e a m W hR ha hm (by omega) rfl (by omega) (by omega)
  | succ d ih =>
    intro hd16 e a m W hR he ha hm
    by_cases h1 : 5000 ≤ m
    · by_cases h2 : e ≤ a
      · exact rf_many1 s R (d + 1) e a m W hR ha hm (by omega) (by omega) hd16 h1 h2
      · exact rf_many0 s R (d + 1) e a m W hR ha hm (by omega) (by omega) hd16 h1 (by omega)
    · by_cases h2 : e ≤ a
      · exact rf_short s R (d + 1) e a m W hR ha hm (by omega) (by omega) hd16 (by omega) h2
      · obtain ⟨c, hc⟩ : ∃ c, byteAt s.data.toList a = c := ⟨_, rfl⟩
        have hcb := byteAt_lt s.data.toList a
        have hlt : a < e := by omega
        rw [rdI_succ (by omega) hlt, hc]
        by_cases hc1 : c < 128
        · have hr : rdText s.data.toList e a (m + 1) = .ok (.mk false ⟨((s.data.toList.drop a).take 1).toArray⟩ []) (a + 1) (m + 1) := by
            unfold rdText
            rw [hc, if_pos hc1]
          rw [if_pos (by omega), hr]
          exact rf_byte s R (d + 1) e a m c W hR hs he hlt (by omega) (by omega) hd16 hc hc1
        · by_cases hc2 : c < 192
          · rw [if_pos hc2]
            unfold rdText
            rw [hc, if_neg hc1]
            rcases hh : rdHead s.data.toList (c - 128) e a with ⟨n, fr, x⟩ | ⟨x, p⟩
            · obtain rfl := head_zero hh
              exact rf_text s R (d + 1) e a m c n fr W hR hs he hlt (by omega) (by omega) hd16 hc (by omega) hc2 hh
            · exact rf_head128_no s R (d + 1) e a m c x p W hR hs he hlt (by omega) (by omega) hd16 hc (by omega) hc2 hh
          · rw [if_neg hc2]
            unfold rdList
            rw [hc]
            rcases hh : rdHead s.data.toList (c - 192) e a with ⟨n, fr, x⟩ | ⟨x, p⟩
            · obtain rfl := head_zero hh
              exact rf_list s R (d + 1) e a m c n fr W (ih (by omega)) hR hs he hlt (by omega) (by omega) hd16 hc (by omega) (by omega) hh
            · exact rf_head192_no s R (d + 1) e a m c x p W hR hs he hlt (by omega) (by omega) hd16 hc (by omega) (by omega) hh
end Go.Proofs.YtbbpmcebakckaaaGreatDoor
